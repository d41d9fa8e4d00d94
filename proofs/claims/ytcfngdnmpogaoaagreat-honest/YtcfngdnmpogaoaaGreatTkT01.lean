import Derived.WalkKit
import Derived.Test.YtcfngdnmpogaoaaGreatProg
import Derived.WalkSpells
import Derived.WalkLawsBesides
import Derived.Deep.AppendSrc
import Derived.Deep.QuietTactic
import Derived.BigQuiet
namespace Go.Proofs.YtcfngdnmpogaoaaGreat
theorem hid {p:Prop} (h:p):Go.RowKit.Hid p:=h
def crcBit (c:Nat):Nat:=if c % 2 = 1 then (c / 2) ^^^ 40961 else c / 2
def crcN:Nat -> Nat -> Nat
 | 0,c=>c
 | n + 1,c=>crcBit (crcN n c)
def crcFrom (c:Nat):List UInt8 -> Nat
 | []=>c
 | x :: l=>crcFrom (crcN 8 (c ^^^ x.toNat)) l
def crc (l:List UInt8):Nat:=crcFrom 65535 l
theorem crcBit_odd (c:Nat) (h:((c:Int) % 2 == 1) = true):crcBit c = (c / 2) ^^^ 40961:=by
 have h:=beq_iff_eq.1 h
 unfold crcBit;rw [if_pos (by omega)]
theorem crcBit_even (c:Nat) (h:((c:Int) % 2 == 1) = false):crcBit c = c / 2:=by
 have h:=beq_eq_false_iff_ne.1 h
 unfold crcBit;rw [if_neg (by omega)]
theorem crcBit_lt (c:Nat) (h:c < 65536):crcBit c < 65536:=by
 unfold crcBit
 split
 . exact Nat.xor_lt_two_pow (n:=16) (by omega) (by decide)
 . omega
theorem crcN_lt (n c:Nat) (h:c < 65536):crcN n c < 65536:=by
 induction n with
 | zero=>exact h
 | succ n ih=>exact crcBit_lt _ ih
theorem crcFrom_snoc (l:List UInt8) (c:Nat) (x:UInt8):crcFrom c (l ++ [x]) = crcN 8 (crcFrom c l ^^^ x.toNat):=by
 induction l generalizing c with
 | nil=>rfl
 | cons y l ih=>exact ih _
theorem xor_byte_lt (c:Nat) (x:UInt8) (h:c < 65536):c ^^^ x.toNat < 65536:=
 Nat.xor_lt_two_pow (n:=16) h (by have:=x.toNat_lt;omega)
theorem crcFrom_lt (l:List UInt8) (c:Nat) (h:c < 65536):crcFrom c l < 65536:=by
 induction l generalizing c with
 | nil=>exact h
 | cons x l ih=>exact ih _ (crcN_lt _ _ (xor_byte_lt _ _ h))
theorem crc_lt (l:List UInt8):crc l < 65536:=crcFrom_lt l _ (by decide)
theorem crc_take_succ (l:List UInt8) (k:Nat) (h:k < l.length):crcFrom 65535 (l.take (k + 1)) = crcN 8 (crcFrom 65535 (l.take k) ^^^ l[k].toNat):=by
 rw [List.take_succ_eq_append_getElem h,crcFrom_snoc]
def low (n:Nat):Nat -> List UInt8
 | 0=>[]
 | k + 1=>UInt8.ofNat n :: low (n / 256) k
theorem low_length (n k:Nat):(low n k).length = k:=by
 induction k generalizing n with
 | zero=>rfl
 | succ k ih=>simp [low,ih]
theorem low_snoc (n k:Nat):low n (k + 1) = low n k ++ [UInt8.ofNat (n / 256 ^ k)]:=by
 induction k generalizing n with
 | zero=>simp [low]
 | succ k ih=>
   rw [low,ih]
   simp only [low,List.cons_append,Nat.div_div_eq_div_mul,Nat.pow_succ]
   rw [Nat.mul_comm 256]
def numb:List UInt8 -> Nat
 | []=>0
 | x :: l=>x.toNat + 256 * numb l
theorem numb_lt (l:List UInt8):numb l < 256 ^ l.length:=by
 induction l with
 | nil=>simp [numb]
 | cons x l ih=>
   have:=x.toNat_lt
   simp only [numb,List.length_cons,Nat.pow_succ]
   omega
theorem numb_drop (l:List UInt8) (k:Nat) (h:k < l.length):numb (l.drop k) = l[k].toNat + 256 * numb (l.drop (k + 1)):=by
 rw [List.drop_eq_getElem_cons h];rfl
end Go.Proofs.YtcfngdnmpogaoaaGreat
namespace Go.Proofs.YtcfngdnmpogaoaaGreat
open Go.RowKit
set_option maxHeartbeats 400000
theorem ret_int {k:IntKind} {a b:Int} (h:a = b):Ending.returned (.int k a) = .returned (.int k b):=by rw [h]
theorem steps_any (c n:Nat) (w:World) (hc:c < 65536) (hn:n < 1000) :
 Calls Tryz.prog 64 #[.int .u16 (c:Int),.int .i64 (n:Int)] w fun e w'=>e = .returned (.int .u16 (crcN n c:Nat)) /\ w' = w:=by
 go_enter Tryz.func64,Tryz.ntmps64
 go_wp2
 go_loop [0,7] (fun x i=>∃ k:Nat,k <= n /\ i = .int .i64 (k:Int) /\ x = .int .u16 (crcN k c:Nat)) (fun _ i=>n - (intOf i).toNat)
 case atStart=>exact ⟨0,Nat.zero_le _,rfl,rfl⟩
 case round=>
  obtain ⟨k,hk,rfl,rfl⟩:=hrel
  have hx:=crcN_lt k c hc
  generalize hX:crcN k c = X at *
  have HX:=hid hX
  clear hX
  by_cases hlt:k < n
  . go_wp2
    . go_round
      case rel=>
       refine ⟨k + 1,by omega,by go_num,?_⟩
       rw [crcN,HX.out,crcBit_odd X (by assumption),<- u16_xor_nat _ _ (by omega) (by omega)];rfl
      case measure=>simp [intOf];omega
    . go_round
      case rel=>
       refine ⟨k + 1,by omega,by go_num,?_⟩
       rw [crcN,HX.out,crcBit_even X (by assumption)];rfl
      case measure=>simp [intOf];omega
  . have hkn:n = k:=by omega
    subst hkn
    go_wp2
    go_ret
    exact ⟨ret_int (congrArg Nat.cast HX.out.symm),rfl⟩
def Bytes (w:World) (b off:Nat) (l:List UInt8):Prop:=∀ j (h:j < l.length),w.cell? ⟨b,off + j,none⟩ = some (.int .u8 (l[j].toNat:Int))
theorem check_any (b off cap:Nat) (l:List UInt8) (w:World) (hl:l.length <= 9223372036854775807) (hc:Bytes w b off l) :
 Calls Tryz.prog 38 #[.slice (some ⟨b,off,none⟩) l.length cap] w fun e w'=>e = .returned (.int .u16 (crc l:Nat)) /\ w' = w:=by
 go_enter Tryz.func38,Tryz.ntmps38
 go_wp2
 go_loop [3,8] (fun x i=>∃ k:Nat,k <= l.length /\ i = .int .i64 (k:Int) /\ x = .int .u16 (crcFrom 65535 (l.take k):Nat)) (fun _ i=>l.length - (intOf i).toNat)
 case atStart=>exact ⟨0,Nat.zero_le _,rfl,rfl⟩
 case round=>
  obtain ⟨k,hk,rfl,rfl⟩:=hrel
  have hx:=crcFrom_lt (l.take k) 65535 (by decide)
  generalize hX:crcFrom 65535 (l.take k) = X at *
  have HX:=hid hX
  clear hX
  by_cases hlt:k < l.length
  . have hcell:=hc k hlt
    have hS:=crc_take_succ l k hlt
    have HS:Hid (crcFrom 65535 (l.take (k + 1)) = crcN 8 (X ^^^ l[k].toNat)):=by rw [<- HX.out];exact hS
    clear hS
    have hb:=l[k].toNat_lt
    have hxx:=xor_byte_lt X l[k] hx
    generalize l[k].toNat = Y at *
    have e:=u16_xor_nat X Y hx (by omega)
    go_wp2_with fail
    refine (steps_any (X ^^^ Y) 8 w hxx (by omega)).mono ?_
    rintro e w' ⟨rfl,rfl⟩
    go_wp2
    go_round
    case rel=>exact ⟨k + 1,by omega,by go_num,by rw [HS.out]⟩
    case measure=>simp [intOf];omega
  . have hkn:k = l.length:=by omega
    go_wp2
    go_ret
    refine ⟨ret_int ?_,rfl⟩
    rw [<- HX.out,hkn,List.take_length];rfl
theorem xor64 (a b:Nat) (ha:a < 65536) (hb:b < 65536):bits BinOp.xor IntKind.i64 (a:Int) (b:Int) = ((a ^^^ b:Nat):Int):=by
 have hx:a ^^^ b < 65536:=Nat.xor_lt_two_pow (n:=16) ha hb
 have ha':a % 2 ^ IntKind.i64.bits = a:=Nat.mod_eq_of_lt (by show a < 2 ^ 64;omega)
 have hb':b % 2 ^ IntKind.i64.bits = b:=Nat.mod_eq_of_lt (by show b < 2 ^ 64;omega)
 simp only [bits,BitVec.ofInt_natCast,BitVec.toNat_xor,BitVec.toNat_ofNat,ha',hb']
 rw [IntKind.wrap_i64]
 omega
theorem rcheck_any (s:ByteArray) (w:World) (hl:s.size <= 9223372036854775807) :
 Calls Tryz.prog 52 #[.string s] w fun e w'=>e = .returned (.int .i64 (crc s.data.toList:Nat)) /\ w' = w:=by
 go_enter Tryz.func52,Tryz.ntmps52
 go_wp2
 go_loop [3,4] (fun x i=>∃ k:Nat,k <= s.size /\ i = .int .i64 (k:Int) /\ x = .int .i64 (crcFrom 65535 (s.data.toList.take k):Nat)) (fun _ i=>s.size - (intOf i).toNat)
 case atStart=>exact ⟨0,Nat.zero_le _,rfl,rfl⟩
 case round=>
  obtain ⟨k,hk,rfl,rfl⟩:=hrel
  have hx:=crcFrom_lt (s.data.toList.take k) 65535 (by decide)
  generalize hX:crcFrom 65535 (s.data.toList.take k) = X at *
  have HX:=hid hX
  clear hX
  by_cases hlt:k < s.size
  . have hS:=crc_take_succ s.data.toList k (by simpa using hlt)
    have HS:Hid (crcFrom 65535 (s.data.toList.take (k + 1)) = crcN 8 (X ^^^ s[k].toNat)):=by rw [<- HX.out];exact hS
    clear hS
    have hb:=s[k].toNat_lt
    have hxx:=xor_byte_lt X s[k] hx
    have e:=xor64 X s[k].toNat hx (by omega)
    go_wp2
    generalize hY:X ^^^ s[k].toNat = Y at *
    clear e hY
    go_loop [3,5] (fun x i=>∃ j:Nat,j <= 8 /\ i = .int .i64 (j:Int) /\ x = .int .i64 (crcN j Y:Nat)) (fun _ i=>8 - (intOf i).toNat)
    case atStart=>exact ⟨0,Nat.zero_le _,rfl,rfl⟩
    case round=>
     obtain ⟨j,hj,rfl,rfl⟩:=hrel
     have hz:=crcN_lt j Y hxx
     generalize hZ:crcN j Y = Z at *
     have HZ:=hid hZ
     clear hZ
     by_cases hlt2:j < 8
     . go_wp2
       . go_round
         case rel=>
          refine ⟨j + 1,by omega,by go_num,?_⟩
          rw [crcN,HZ.out,crcBit_odd Z (by assumption),<- xor64 _ _ (by omega) (by omega)];rfl
         case measure=>simp [intOf];omega
       . go_round
         case rel=>
          refine ⟨j + 1,by omega,by go_num,?_⟩
          rw [crcN,HZ.out,crcBit_even Z (by assumption)];rfl
         case measure=>simp [intOf];omega
     . have hj8:j = 8:=by omega
       subst hj8
       go_wp2
       go_round
       case rel=>exact ⟨k + 1,by omega,by go_num,by rw [HS.out,HZ.out]⟩
       case measure=>simp [intOf];omega
  . have hkn:k = s.size:=by omega
    go_wp2
    go_ret
    refine ⟨ret_int ?_,rfl⟩
    rw [<- HX.out,hkn,show s.size = s.data.toList.length from by rw [Array.length_toList];rfl,List.take_length];rfl
def signZ (m i:Int):Int:=wrap64 (m + wrap64 (i * wrap64 (1 + wrap64 (m.tdiv 256)))) % 256
theorem sign_any (m i:Int) (w:World) :
 Calls Tryz.prog 86 #[.int .i64 m,.int .i64 i] w fun e w'=>e = .returned (.int .u8 (signZ m i)) /\ w' = w:=by
 go_enter Tryz.func86,Tryz.ntmps86
 go_wp2
 go_ret
 exact ⟨rfl,rfl⟩
end Go.Proofs.YtcfngdnmpogaoaaGreat
namespace Go.Proofs.YtcfngdnmpogaoaaGreat
open Go.RowKit
def offOf:Value -> Nat
 | .slice (some a) _ _=>a.off
 | _=>0
def Row (w:World) (e:TypeId) (sz:Nat) (v:Value) (xs:List Value):Prop:=
 (v = .slice none 0 0 /\ xs = []) \/
 ∃ g off n cap cur,v = .slice (some ⟨g,off,none⟩) n cap /\ w.heap[g]? = some (.cells cur e (0,0)) /\ n <= cap /\ cap <= maxLen /\ off + cap * sz <= cur.size /\ xs.length = n * sz /\ ∀ j,j < n * sz -> cur[off + j]? = xs[j]?
theorem Row.nil (w:World) (e:TypeId) (sz:Nat):Row w e sz (.slice none 0 0) []:=.inl ⟨rfl,rfl⟩
theorem Row.ofOwns {w:World} {base:Nat} {e:TypeId} {sz:Nat} {v:Value} {n:Nat} {xs:List Value} (h:w.ownsRow base e sz v n xs):Row w e sz v xs:=by
 obtain ⟨hl,h⟩:=h
 rcases h with ⟨rfl,rfl⟩ | ⟨g,cap,cur,rfl,_,hg,hnc,hcm,hs,ht⟩
 . exact .inl ⟨rfl,List.eq_nil_of_length_eq_zero (by simpa using hl)⟩
 . refine .inr ⟨g,0,n,cap,cur,rfl,hg,hnc,hcm,by omega,hl,fun j hj=>?_⟩
   rw [<- ht,List.getElem?_take,if_pos hj,Nat.zero_add];simp
theorem Row.blk_lt {w:World} {e:TypeId} {sz:Nat} {v:Value} {xs:List Value} (h:Row w e sz v xs) {k:Nat} (hk:v.ownBlock = some k):k < w.heap.size /\ ∃ cur,w.heap[k]? = some (.cells cur e (0,0)):=by
 rcases h with ⟨rfl,_⟩ | ⟨g,off,n,cap,cur,rfl,hg,_⟩
 . simp [Value.ownBlock] at hk
 . simp only [Value.ownBlock,Option.some.injEq] at hk
   subst hk
   exact ⟨(Array.getElem?_eq_some_iff.1 hg).1,cur,hg⟩
theorem Row.congr {w w':World} {e:TypeId} {sz:Nat} {v:Value} {xs:List Value} (h:Row w e sz v xs) (hb:∀ k,v.ownBlock = some k -> w'.heap[k]? = w.heap[k]?):Row w' e sz v xs:=by
 rcases h with h | ⟨g,off,n,cap,cur,rfl,hg,r⟩
 . exact .inl h
 . exact .inr ⟨g,off,n,cap,cur,rfl,by rw [hb g rfl];exact hg,r⟩
theorem Row.grown {w w':World} {row:Option Nat} {e:TypeId} {sz:Nat} {v:Value} {xs:List Value} (h:Row w e sz v xs) (hg:w.grownBy w' row) (hne:∀ k,v.ownBlock = some k -> row ≠ some k):Row w' e sz v xs:=
 h.congr fun k hk=>hg.block k (h.blk_lt hk).1 (fun e=>hne k hk e.symm)
theorem Row.below {w w':World} {B:Nat} {e:TypeId} {sz:Nat} {v:Value} {xs:List Value} (h:Row w e sz v xs) (hg:Below B w w') (hne:∀ k,v.ownBlock = some k -> k < B):Row w' e sz v xs:=
 h.congr fun k hk=>hg.block k (hne k hk)
theorem Row.alloc {w:World} {e:TypeId} {sz:Nat} {v:Value} {xs:List Value} (h:Row w e sz v xs) (o:Obj):Row (w.alloc o) e sz v xs:=
 h.congr fun k hk=>Below.heap_alloc w o k (h.blk_lt hk).1
theorem Row.drew {w:World} {e:TypeId} {sz:Nat} {v:Value} {xs:List Value} (h:Row w e sz v xs):Row w.drew e sz v xs:=h
theorem Row.apart {w:World} {e e':TypeId} {sz sz':Nat} {v v':Value} {xs xs':List Value} (h:Row w e sz v xs) (h':Row w e' sz' v' xs') (hne:e ≠ e') {k:Nat} (hk:v.ownBlock = some k):v'.ownBlock ≠ some k:=by
 intro hk'
 obtain ⟨_,c,hc⟩:=h.blk_lt hk
 obtain ⟨_,c',hc'⟩:=h'.blk_lt hk'
 rw [hc] at hc'
 simp only [Option.some.injEq,Obj.cells.injEq] at hc'
 exact hne hc'.2.1
theorem Row.cell {w:World} {e:TypeId} {sz:Nat} {g off n cap:Nat} {xs:List Value} (h:Row w e sz (.slice (some ⟨g,off,none⟩) n cap) xs) (j:Nat) (hj:j < n * sz):w.cell? ⟨g,off + j,none⟩ = xs[j]?:=by
 rcases h with ⟨h,_⟩ | ⟨g',off',n',cap',cur,hv,hg,_,_,_,_,hc⟩
 . simp at h
 . simp only [Value.slice.injEq,Option.some.injEq,Addr.mk.injEq] at hv
   obtain ⟨⟨rfl,rfl,_⟩,rfl,rfl⟩:=hv
   rw [cell_of_row w _ _ cur e (0,0) hg]
   exact hc j hj
theorem Row.frozen {w:World} {e:TypeId} {sz:Nat} {g off n cap:Nat} {xs:List Value} (h:Row w e sz (.slice (some ⟨g,off,none⟩) n cap) xs) (j:Nat):w.frozen? ⟨g,j,none⟩ = false:=by
 rcases h with ⟨h,_⟩ | ⟨g',off',n',cap',cur,hv,hg,_⟩
 . simp at h
 . simp only [Value.slice.injEq,Option.some.injEq,Addr.mk.injEq] at hv
   obtain ⟨⟨rfl,rfl,_⟩,rfl,rfl⟩:=hv
   exact frozen_of_row w _ j cur e hg
theorem Row.shape {w:World} {e:TypeId} {sz:Nat} {v:Value} {xs:List Value} (h:Row w e sz v xs) (hx:xs ≠ []):∃ g off n cap,v = .slice (some ⟨g,off,none⟩) n cap /\ xs.length = n * sz /\ n <= cap:=by
 rcases h with ⟨_,h⟩ | ⟨g,off,n,cap,cur,rfl,_,hn,_,_,hl,_⟩
 . exact absurd h hx
 . exact ⟨g,off,n,cap,rfl,hl,hn⟩
theorem setCells_streams (g:Nat):∀ (vs:List Value) (o:Nat) (w:World),(w.setCells g o vs).os = w.os /\ (w.setCells g o vs).tape = w.tape /\ (w.setCells g o vs).output = w.output /\ (w.setCells g o vs).heap.size = w.heap.size
 | [],_,_=>⟨rfl,rfl,rfl,rfl⟩
 | v :: vs,o,w=>by
   obtain ⟨a,b,c,d⟩:=setCells_streams g vs (o + 1) (w.setCell ⟨g,o,none⟩ v)
   exact ⟨a,b,c,d.trans (by simp [World.setCell])⟩
theorem setCells_other (g:Nat):∀ (vs:List Value) (o:Nat) (w:World) (k:Nat),k ≠ g -> (w.setCells g o vs).heap[k]? = w.heap[k]?
 | [],_,_,_,_=>rfl
 | v :: vs,o,w,k,h=>(setCells_other g vs (o + 1) (w.setCell ⟨g,o,none⟩ v) k h).trans (heap_setCell_other w ⟨g,o,none⟩ k v h)
theorem setCells_same (g:Nat) (e:TypeId):∀ (vs:List Value) (o:Nat) (w:World) (cur:Array Value),w.heap[g]? = some (.cells cur e (0,0)) ->
 ∃ cur':Array Value,(w.setCells g o vs).heap[g]? = some (.cells cur' e (0,0)) /\ cur'.size = cur.size /\ (∀ j,(j < o \/ o + vs.length <= j) -> cur'[j]? = cur[j]?) /\ (o + vs.length <= cur.size -> ∀ j,j < vs.length -> cur'[o + j]? = vs[j]?)
 | [],_,_,cur,h=>⟨cur,h,rfl,fun _ _=>rfl,fun _ j hj=>by simp at hj⟩
 | v :: vs,o,w,cur,h=>by
   obtain ⟨cur',h1,h2,h3,h4⟩:=setCells_same g e vs (o + 1) (w.setCell ⟨g,o,none⟩ v) (cur.setIfInBounds o v) (heap_setCell_same w g o cur e v h)
   refine ⟨cur',h1,by simpa using h2,fun j hj=>?_,fun hb j hj=>?_⟩
   . simp only [List.length_cons] at hj
     rw [h3 j (by omega),Array.getElem?_setIfInBounds]
     rw [if_neg (by omega)]
   . simp only [List.length_cons] at hb hj
     cases j with
     | zero=>
       rw [h3 (o + 0) (by omega),Array.getElem?_setIfInBounds]
       simp;omega
     | succ j=>
       have:=h4 (by simpa using by omega) j (by omega)
       rw [show o + (j + 1) = o + 1 + j from by omega,this];simp
structure App (w w':World) (e:TypeId) (sz:Nat) (v v':Value) (xs news:List Value):Prop where
 row:Row w' e sz v' (xs ++ news)
 grown:w.grownBy w' v.ownBlock
 step:(v'.ownBlock = v.ownBlock /\ offOf v' = offOf v) \/ (v'.ownBlock = some w.heap.size /\ w.grownBy w' none)
 old:∀ u ys,Row w e sz u ys -> (u.ownBlock = v.ownBlock -> offOf u = offOf v /\ ys.length <= xs.length) -> Row w' e sz u ys
theorem App.below {w w':World} {e:TypeId} {sz B:Nat} {v v':Value} {xs news:List Value} (h:App w w' e sz v v' xs news) (hB:∀ g,v.ownBlock = some g -> B <= g) (hBw:B <= w.heap.size):Below B w w':=
 (Below.refl B w).grown h.grown hBw hB
theorem App.blk {w w':World} {e:TypeId} {sz B:Nat} {v v':Value} {xs news:List Value} (h:App w w' e sz v v' xs news) (hB:∀ g,v.ownBlock = some g -> B <= g) (hBw:B <= w.heap.size):∀ g,v'.ownBlock = some g -> B <= g:=by
 intro g hg
 rcases h.step with ⟨h1,_⟩ | ⟨h1,_⟩
 . exact hB g (h1 ▸ hg)
 . rw [h1] at hg
   simp only [Option.some.injEq] at hg
   omega
section
variable {P:Program} (w:World)
theorem append_row (t tx ty e:TypeId) (i:TypeInfo) (z:Value) (sz bytes:Nat) (ht:P.underlying t = some (.slice e)) (hi:P.info? e = some i) (hz:i.zero = some z)
 (hsize:i.size = sz) (hby:i.bytes = bytes) (hzs:z.cells.size = sz) (hsz:0 < sz)
 (v:Value) (xs:List Value) (hrow:Row w e sz v xs) (x:Value) (m:Nat) (news:List Value) (hs:Src P sz tx x m news w) (hm:0 < m)
 (h63:xs.length + m <= maxLen) (hbytes:(xs.length + m * sz) * bytes <= 140737488355328 * sz) :
 ∃ v' w',(Builtin.append_ #[t,tx] ty #[v,x]).run P w = .ok v' w' /\ App w w' e sz v v' xs news:=by
 subst hsize
 subst hby
 have hnl:=hs.newsLen
 have grow:∀ (base:Option Addr) (n cap:Nat),v = .slice base n cap -> xs.length = n * i.size -> cap < n + m ->
  (Builtin.firstCells i.size n (.slice base n cap)).run P w.drew = .ok xs.toArray w.drew ->
  ∃ v' w',(Builtin.append_ #[t,tx] ty #[v,x]).run P w = .ok v' w' /\ App w w' e i.size v v' xs news:=by
  intro base n cap hv hl hc hold
  subst hv
  have hb:(n + m) * i.bytes <= 140737488355328:=by
   rw [hl,<- Nat.add_mul,Nat.mul_right_comm] at hbytes
   exact Nat.le_of_mul_le_mul_right hbytes hsz
  have hn1:n <= xs.length:=by rw [hl];exact Nat.le_mul_of_pos_right _ hsz
  have hnm:n + m <= maxLen:=by omega
  have hr:=run_append_grow_src (P:=P) w t tx ty e i z ht hi hz base n cap xs hold x m news hs hc (by simp only [maxLen] at hnm;omega) (growslice_fits hc hb)
  have hge:=grownCap_ge w (n + m) cap e
  have hcm:=grownCap_le_maxLen w (n + m) cap e hnm
  have hlen:(xs ++ news).length = (n + m) * i.size:=by rw [List.length_append,hl,hnl,Nat.add_mul]
  have hgr:∀ row,w.grownBy (w.drew.alloc (.cells ((xs ++ news).toArray ++ Builtin.zeroCells z.cells (grownCap w (n + m) cap e - (n + m))) e)) row:=fun row=>
   ⟨rfl,rfl,rfl,by simp,fun k hk _=>Below.heap_alloc w.drew _ k hk⟩
  refine ⟨_,_,hr,⟨.inr ⟨w.heap.size,0,n + m,_,_,rfl,heap_alloc_new w.drew _,hge,hcm,?_,hlen,fun j hj=>?_⟩,hgr _,.inr ⟨rfl,hgr _⟩,fun u ys hu _=>hu.grown (hgr none) (fun _ _=>by simp)⟩⟩
  . simp only [Array.size_append,List.size_toArray,size_zeroCells,hzs,hlen,<- Nat.add_mul,Nat.zero_add]
    exact Nat.le_of_eq (by congr 1;omega)
  . rw [Nat.zero_add,Array.getElem?_append_left (by simpa [hlen] using hj)]
    simp
 rcases hrow with ⟨rfl,rfl⟩ | ⟨g,off,n,cap,cur,rfl,hg,hnc,hcm,hcs,hl,hcell⟩
 . exact grow none 0 0 rfl (by simp) (by omega) (by simp [Builtin.firstCells])
 . by_cases hroom:n + m <= cap
   . have hfit:off + n * i.size + news.length <= cur.size:=by
      rw [hnl]
      have:=Nat.mul_le_mul_right i.size hroom
      rw [Nat.add_mul] at this
      omega
     have hr:=run_append_room_src (P:=P) w t tx ty e i ht hi g off n cap x m news hs hroom
      (fun j hj=>by rw [cell_of_row w _ _ cur e (0,0) hg];simp;omega) (fun j _=>frozen_of_row w _ _ cur e hg)
     obtain ⟨cur',h1,h2,h3,h4⟩:=setCells_same g e news (off + n * i.size) w cur hg
     obtain ⟨s1,s2,s3,s4⟩:=setCells_streams g news (off + n * i.size) w
     refine ⟨_,_,hr,⟨.inr ⟨g,off,n + m,cap,cur',rfl,h1,hroom,hcm,by omega,by rw [List.length_append,hl,hnl,Nat.add_mul],fun j hj=>?_⟩,
      ⟨s1,s2,s3,Nat.le_of_eq s4.symm,fun k _ hk=>setCells_other g news _ w k (fun e=>hk (by simp [Value.ownBlock,e]))⟩,.inl ⟨rfl,rfl⟩,fun u ys hu hp=>?_⟩⟩
     . by_cases hj':j < n * i.size
       . rw [h3 _ (by omega),hcell j hj',List.getElem?_append_left (by omega)]
       . have hj2:j - n * i.size < news.length:=by rw [hnl];rw [Nat.add_mul] at hj;omega
         have:=h4 (by omega) (j - n * i.size) hj2
         rw [show off + n * i.size + (j - n * i.size) = off + j from by omega] at this
         rw [this,List.getElem?_append_right (by omega),hl]
     . rcases hu with hu | ⟨g',off',n',cap',curu,rfl,hgu,r1,r2,r3,r4,r5⟩
       . exact .inl hu
       . by_cases hgg:g' = g
         . subst hgg
           obtain ⟨ho,hle⟩:=hp rfl
           simp only [offOf] at ho
           subst ho
           rw [hg] at hgu
           simp only [Option.some.injEq,Obj.cells.injEq] at hgu
           obtain ⟨rfl,_⟩:=hgu
           refine .inr ⟨g',off',n',cap',cur',rfl,h1,r1,r2,by omega,r4,fun j hj=>?_⟩
           rw [h3 _ (by omega)]
           exact r5 j hj
         . exact .inr ⟨g',off',n',cap',curu,rfl,by rw [setCells_other g news _ w g' hgg];exact hgu,r1,r2,r3,r4,r5⟩
   . refine grow (some ⟨g,off,none⟩) n cap rfl hl (by omega) ?_
     exact run_firstCells_some (P:=P) w.drew i.size n ⟨g,off,none⟩ n cap xs hl (fun j u hu=>by
      rw [Addr.add_lit,World.cell?_drew,cell_of_row w _ _ cur e (0,0) hg,hcell j (by have:=(List.getElem?_eq_some_iff.1 hu).1;omega)];exact hu)
theorem wp_append {o:Oper} {a:Act} {K:Act -> World -> Prop} {Q:Exit -> Act -> World -> Prop} (s x:Operand) (t tx:TypeId)
 (ho:o.op = .call { callee:=.builtin .append,args:=#[s,x],argTypes:=#[t,tx] })
 (e:TypeId) (i:TypeInfo) (z:Value) (sz bytes:Nat) (ht:P.underlying t = some (.slice e)) (hi:P.info? e = some i) (hz:i.zero = some z)
 (hsize:i.size = sz) (hby:i.bytes = bytes) (hzs:z.cells.size = sz) (hsz:0 < sz)
 (v:Value) (xs:List Value) (hev:a.eval s = v) (hrow:Row w e sz v xs) (xv:Value) (m:Nat) (news:List Value) (hx:a.eval x = xv) (hs:Src P sz tx xv m news w) (hm:0 < m)
 (h63:xs.length + m <= maxLen) (hbytes:(xs.length + m * sz) * bytes <= 140737488355328 * sz)
 (h:∀ v' w',App w w' e sz v v' xs news -> K (a.put o.dst v') w'):o.wp P a w K Q:=by
 obtain ⟨v',w',hr,h2⟩:=append_row (P:=P) w t tx o.type e i z sz bytes ht hi hz hsize hby hzs hsz v xs hrow xv m news hs hm h63 hbytes
 unfold Oper.wp execOp
 simp only [ho,resolve,invoke,builtin,Sem.run_bind,Sem.run_pure,Result.andThen_ok,List.map_toArray,List.map_cons,List.map_nil,hev,hx,hr]
 exact h v' w' h2
theorem wpList_append {ops:Array Oper} {rest:List Oper} {o:Oper} {a:Act} {Q:Exit -> Act -> World -> Prop} (hgd:o.guard = none) (s x:Operand) (t tx:TypeId)
 (ho:o.op = .call { callee:=.builtin .append,args:=#[s,x],argTypes:=#[t,tx] })
 (e:TypeId) (i:TypeInfo) (z:Value) (sz bytes:Nat) (ht:P.underlying t = some (.slice e)) (hi:P.info? e = some i) (hz:i.zero = some z)
 (hsize:i.size = sz) (hby:i.bytes = bytes) (hzs:z.cells.size = sz) (hsz:0 < sz)
 (v:Value) (xs:List Value) (hev:a.eval s = v) (hrow:Row w e sz v xs) (xv:Value) (m:Nat) (news:List Value) (hx:a.eval x = xv) (hs:Src P sz tx xv m news w) (hm:0 < m)
 (h63:xs.length + m <= maxLen) (hbytes:(xs.length + m * sz) * bytes <= 140737488355328 * sz)
 (h:∀ v' w',App w w' e sz v v' xs news -> wpList P ops Q rest (a.put o.dst v') w'):wpList P ops Q (o :: rest) a w:=
 wpList_plain hgd fun _ hK=>wp_append w s x t tx ho e i z sz bytes ht hi hz hsize hby hzs hsz v xs hev hrow xv m news hx hs hm h63 hbytes fun v' w' h2=>hK _ _ (h v' w' h2)
end
end Go.Proofs.YtcfngdnmpogaoaaGreat
namespace Go.Proofs.YtcfngdnmpogaoaaGreat
open Go.RowKit
set_option maxHeartbeats 800000
def byteV (x:UInt8):Value:=.int .u8 (x.toNat:Int)
theorem info5:(Tryz.prog.info? 5).map (fun i=>(i.zero,i.size,i.bytes)) = some (some (.int .u8 0),1,1):=by kernel_rfl
theorem Row.bytes {w:World} {g off n cap:Nat} {l:List UInt8} (h:Row w 5 1 (.slice (some ⟨g,off,none⟩) n cap) (l.map byteV)):Bytes w g off l /\ n = l.length:=by
 have hn:n = l.length:=by
  rcases h with ⟨h,_⟩ | ⟨g',off',n',cap',cur,hv,hg,_,_,_,hl,hc⟩
  . simp at h
  . simp only [Value.slice.injEq] at hv
    rw [hv.2.1];simpa using hl.symm
 refine ⟨fun j hj=>?_,hn⟩
 rw [h.cell j (by omega)]
 simp [hj,byteV]
theorem one_new (w:World) (x:Value) (e:TypeId):∀ (j:Nat) (u:Value),[x][j]? = some u -> (w.alloc (.cells #[x] e)).cell? ((⟨w.heap.size,0,none⟩:Addr).add j) = some u:=by
 intro j u hu
 have hj:j = 0:=by
  have:=(List.getElem?_eq_some_iff.1 hu).1
  simpa using this
 subst hj
 simp at hu
 subst hu
 simp [Addr.add_lit]
theorem wrap_byte (n:Nat):((n:Int) % 256) = ((UInt8.ofNat n).toNat:Int):=by
 simp [UInt8.toNat_ofNat']
theorem appendLow_any (v:Value) (l:List UInt8) (x k B:Nat) (w:World) (hrow:Row w 5 1 v (l.map byteV)) (hB:∀ g,v.ownBlock = some g -> B <= g) (hBw:B <= w.heap.size)
 (hx0:x < 18446744073709551616) (hk:k <= 8) (hl:l.length <= 1000) :
 Calls Tryz.prog 37 #[v,.int .u64 (x:Int),.int .i64 (k:Int)] w fun e w'=>
  ∃ v',e = .returned v' /\ Row w' 5 1 v' ((l ++ low x k).map byteV) /\ (∀ g,v'.ownBlock = some g -> B <= g) /\ Below B w w':=by
 have hx:=hid hx0
 clear hx0
 obtain ⟨i,hi,hz0,hz1,hz2⟩:=info_parts info5
 go_enter Tryz.func37,Tryz.ntmps37
 go_wp2
 go_loopw [0,1,8] (fun b y c wr=>∃ (n X:Nat),n <= k /\ c = .int .i64 (n:Int) /\ Hid (X < 18446744073709551616) /\ y = .int .u64 (X:Int) /\ X = x / 256 ^ n /\ Row wr 5 1 b ((l ++ low x n).map byteV) /\ (∀ g,b.ownBlock = some g -> B <= g) /\ Below B w wr /\ B <= wr.heap.size)
  (fun _ _ c _=>k - (intOf c).toNat)
 case atStart=>exact ⟨0,x,Nat.zero_le _,rfl,hx,rfl,by simp,by simpa [low] using hrow,hB,Below.refl _ _,hBw⟩
 case round=>
  obtain ⟨n,X,hn,rfl,hX,rfl,hXe,hr,hu,hb,hBr⟩:=hrel
  have HX:=hid hXe
  clear hXe
  by_cases hlt:n < k
  . have hll:((l ++ low x n).map byteV).length = l.length + n:=by simp [low_length]
    generalize hL:(l ++ low x n).map byteV = L at *
    have HL:=hid hL
    clear hL
    go_wp2_with (at_builtin;go_must (refine wpList_append _ rfl _ _ _ _ rfl 5 i (.int .u8 0) 1 1 Tryz.underlying30 hi hz0 hz1 hz2 rfl Nat.one_pos u0 L rfl (hr.alloc _) (.slice (some ⟨wr.heap.size,0,none⟩) 1 1) 1 [.int .u8 ((X:Int) % 256)] rfl ?hsrc Nat.one_pos ?h63 ?hby ?next))
    case hsrc=>exact Src.ofSlice _ Tryz.underlying30 ⟨wr.heap.size,0,none⟩ 1 1 _ rfl (one_new wr _ _) (by simp [Value.oneCell'])
    case h63=>rw [hll];simp only [maxLen];omega
    case hby=>rw [hll];omega
    intro v' w' ha
    have HA:=hid ha
    clear ha
    go_wp2
    have ha:=HA.out
    have hb1:Below B wr (wr.alloc (.cells #[.int .u8 ((X:Int) % 256)] 5)):=(Below.refl B wr).alloc hBr _
    have hb2:=hb1.trans (ha.below hu (by simp;omega))
    have hrr:=ha.row
    rw [wrap_byte,<- HL.out] at hrr
    go_round
    case rel=>
     refine ⟨n + 1,X / 256,by omega,by go_num,Nat.lt_of_le_of_lt (Nat.div_le_self _ _) hX,rfl,?_,?_,ha.blk hu (by simp;omega),hb.trans hb2,Nat.le_trans hBr hb2.size⟩
     . rw [HX.out,Nat.div_div_eq_div_mul,Nat.pow_succ]
     . rw [low_snoc,<- HX.out,<- List.append_assoc,List.map_append (l₂:=[_])]
       exact hrr
    case measure=>simp [intOf];omega
  . have hnk:n = k:=by omega
    subst hnk
    go_wp2
    go_ret
    exact ⟨_,rfl,hr,hu,hb⟩
theorem or_byte (V Y:Nat) (hY:Y < 256):(V * 256) ||| Y = Y + 256 * V:=by
 have h:=Nat.shiftLeft_add_eq_or_of_lt (a:=V) (b:=Y) (i:=8) (by omega)
 rw [Nat.shiftLeft_eq,show 2 ^ 8 = 256 from rfl] at h
 omega
theorem readLow_any (b off cap:Nat) (l:List UInt8) (w:World) (hl:l.length <= 8) (hc:Bytes w b off l) :
 Calls Tryz.prog 39 #[.slice (some ⟨b,off,none⟩) l.length cap] w fun e w'=>e = .returned (.int .u64 (numb l:Nat)) /\ w' = w:=by
 go_enter Tryz.func39,Tryz.ntmps39
 go_wp2
 go_loop [3,4] (fun x i=>∃ k:Nat,k <= l.length /\ i = .int .i64 ((k:Int) - 1) /\ x = .int .u64 (numb (l.drop k):Nat)) (fun _ i=>(intOf i + 1).toNat)
 case atStart=>exact ⟨l.length,Nat.le_refl _,rfl,by simp [numb]⟩
 case round=>
  obtain ⟨k,hk,rfl,rfl⟩:=hrel
  cases k with
  | zero=>
    go_wp2
    go_ret
    exact ⟨rfl,rfl⟩
  | succ k=>
    have hlt:k < l.length:=by omega
    have hcell:=hc k hlt
    have hv:=numb_lt (l.drop (k + 1))
    have HS:=hid (numb_drop l k hlt)
    have hy:=l[k].toNat_lt
    generalize l[k].toNat = Y at *
    generalize numb (l.drop (k + 1)) = V at *
    have hp:256 ^ (l.drop (k + 1)).length <= 256 ^ 7:=Nat.pow_le_pow_right (by decide) (by simp;omega)
    have hV:V < 72057594037927936:=by omega
    clear hv hp
    go_wp2
    go_round
    case rel=>
     refine ⟨k,by omega,rfl,?_⟩
     rw [HS.out,<- or_byte V Y (by omega),<- u64_or_nat _ _ (by omega) (by omega),Int.natCast_mul];rfl
    case measure=>simp [intOf]
theorem number_any (s:ByteArray) (at_ k:Nat) (w:World) (hs:s.size <= 9223372036854775807) (hk:k <= 8) (ha:at_ + k <= s.size) :
 Calls Tryz.prog 113 #[.string s,.int .i64 (at_:Int),.int .i64 (k:Int)] w fun e w'=>e = .returned (.int .u64 (numb ((s.data.toList.drop at_).take k):Nat)) /\ w' = w:=by
 have hsz:s.data.toList.length = s.size:=by rw [Array.length_toList];rfl
 have hlen:((s.data.toList.drop at_).take k).length = k:=by simp only [List.length_take,List.length_drop,hsz];omega
 generalize hL:(s.data.toList.drop at_).take k = l at *
 have HL:=hid hL
 clear hL
 have hget:∀ j (h:j < k) (h2:at_ + j < s.size),s[at_ + j] = l[j]:=by
  intro j h h2
  have:l[j]? = s.data.toList[at_ + j]?:=by rw [<- HL.out,List.getElem?_take,if_pos h,List.getElem?_drop]
  rw [List.getElem?_eq_getElem (by omega),List.getElem?_eq_getElem (by omega)] at this
  exact (Option.some.inj this).symm
 have HG:=hid hget
 clear hget
 go_enter Tryz.func113,Tryz.ntmps113
 go_wp2
 go_loop [7,8] (fun x i=>∃ j:Nat,j <= k /\ i = .int .i64 ((j:Int) - 1) /\ x = .int .u64 (numb (l.drop j):Nat)) (fun _ i=>(intOf i + 1).toNat)
 case atStart=>exact ⟨k,Nat.le_refl _,rfl,by rw [<- hlen];simp [numb]⟩
 case round=>
  obtain ⟨j,hj,rfl,rfl⟩:=hrel
  cases j with
  | zero=>
    go_wp2
    go_ret
    exact ⟨rfl,rfl⟩
  | succ j=>
    have hlt:j < l.length:=by omega
    have hv:=numb_lt (l.drop (j + 1))
    have HS:=hid (numb_drop l j hlt)
    have hy:=l[j].toNat_lt
    have hg:=HG.out j (by omega) (by omega)
    rw [<- hg] at hy
    have HS:Hid (numb (l.drop j) = s[at_ + j].toNat + 256 * numb (l.drop (j + 1))):=by rw [hg];exact HS
    clear hg
    generalize numb (l.drop (j + 1)) = V at *
    have hp:256 ^ (l.drop (j + 1)).length <= 256 ^ 7:=Nat.pow_le_pow_right (by decide) (by simp;omega)
    have hV:V < 72057594037927936:=by omega
    clear hv hp
    go_wp2
    go_round
    case rel=>
     refine ⟨j,by omega,rfl,?_⟩
     rw [HS.out,<- or_byte V _ (by omega),<- u64_or_nat _ _ (by omega) (by omega),Int.natCast_mul];rfl
    case measure=>simp [intOf]
end Go.Proofs.YtcfngdnmpogaoaaGreat

import Derived.Test.YtcfngdnmpogaoaaGreatTkT01
import Derived.Deep.RegionHeld3
import Derived.Test.YtcfngdnmpogaoaaGreatRows
import Derived.Conc.MuData
import Derived.Conc.MuLone
import Derived.KernelRfl
import Derived.WalkKit
import Derived.Deep.RegionWith
import Derived.Deep.QuietTactic
import Derived.BigQuiet
import Derived.StillTailTactics
namespace Go.Proofs.YtcfngdnmpogaoaaGreat
open Go.RowKit
set_option maxHeartbeats 1600000
theorem tmod_nat (a b:Nat):Int.tmod (a:Int) (b:Int) = ((a % b:Nat):Int):=by
 rw [Int.tmod_eq_emod_of_nonneg (by omega)];rfl
theorem gcd_any (A B:Nat) (w:World) (ha:A <= 9223372036854775807) (hb:B <= 9223372036854775807) :
 Calls Tryz.prog 87 #[.int .i64 A,.int .i64 B] w fun e w'=>e = .returned (.int .i64 (Nat.gcd A B:Nat)) /\ ∃ m,w' = w.drewN m:=by
 go_enter Tryz.func87,Tryz.ntmps87
 go_wp2
 go_loopw [0,1] (fun x y wr=>∃ a b:Nat,a <= 9223372036854775807 /\ b <= 9223372036854775807 /\ x = .int .i64 (a:Int) /\ y = .int .i64 (b:Int) /\ Nat.gcd b a = Nat.gcd A B /\ ∃ m,wr = w.drewN m) (fun _ y _=>(intOf y).toNat)
 case atStart=>exact ⟨A,B,ha,hb,rfl,rfl,Nat.gcd_comm B A,0,rfl⟩
 case round=>
  obtain ⟨a,b,ha,hb,rfl,rfl,hg,m,hwm⟩:=hrel
  have HW:=hid hwm
  clear hwm
  have HG:=hid hg
  clear hg
  by_cases hz:b = 0
  . subst hz
    go_wp2
    go_ret
    refine ⟨ret_int ?_,m,HW.out⟩
    rw [<- HG.out,Nat.gcd_zero_left]
  . have hn:¬ ((b:Int) = 0):=by omega
    have hne:((b:Int) != 0) = true:=by simp;omega
    have hm:IntKind.i64.wrap (Int.tmod (a:Int) (b:Int)) = ((a % b:Nat):Int):=by
     have:=Nat.mod_lt a (Nat.pos_of_ne_zero hz)
     rw [tmod_nat,IntKind.wrap_i64];omega
    go_wp2
    first | go_quiet (fail) | go_region
    go_wp2
    go_round
    case rel=>exact ⟨b,a % b,hb,by have:=Nat.mod_lt a (Nat.pos_of_ne_zero hz);omega,rfl,by go_num,by rw [<- HG.out,Nat.gcd_rec b a],m + nq,by rw [HW.out];simp⟩
    case measure=>have:=Nat.mod_lt a (Nat.pos_of_ne_zero hz);simp [intOf];omega
theorem rgcd_any (A B:Nat) (w:World) (ha:A <= 9223372036854775807) (hb:B <= 9223372036854775807) :
 Calls Tryz.prog 114 #[.int .i64 A,.int .i64 B] w fun e w'=>e = .returned (.int .i64 (Nat.gcd A B:Nat)) /\ w' = w:=by
 go_enter Tryz.func114,Tryz.ntmps114
 go_wp2
 go_loop [0,1] (fun x y=>∃ a b:Nat,a <= 9223372036854775807 /\ b <= 9223372036854775807 /\ x = .int .i64 (a:Int) /\ y = .int .i64 (b:Int) /\ Nat.gcd b a = Nat.gcd A B) (fun _ y=>(intOf y).toNat)
 case atStart=>exact ⟨A,B,ha,hb,rfl,rfl,Nat.gcd_comm B A⟩
 case round=>
  obtain ⟨a,b,ha,hb,rfl,rfl,hg⟩:=hrel
  have HG:=hid hg
  clear hg
  by_cases hz:b = 0
  . subst hz
    go_wp2
    go_ret
    refine ⟨ret_int ?_,rfl⟩
    rw [<- HG.out,Nat.gcd_zero_left]
  . have hn:¬ ((b:Int) = 0):=by omega
    have hne:((b:Int) != 0) = true:=by simp;omega
    have hm:IntKind.i64.wrap (Int.tmod (a:Int) (b:Int)) = ((a % b:Nat):Int):=by
     have:=Nat.mod_lt a (Nat.pos_of_ne_zero hz)
     rw [tmod_nat,IntKind.wrap_i64];omega
    go_wp2
    go_round
    case rel=>exact ⟨b,a % b,hb,by have:=Nat.mod_lt a (Nat.pos_of_ne_zero hz);omega,rfl,by go_num,by rw [<- HG.out,Nat.gcd_rec b a]⟩
    case measure=>have:=Nat.mod_lt a (Nat.pos_of_ne_zero hz);simp [intOf];omega
def down (t n:Int):Int:=t - t % n
theorem tdiv_tmod_neg (t n:Int) (hn:1 <= n):t.tmod n = if t % n ≠ 0 /\ t < 0 then t % n - n else t % n:=by
 by_cases ht:0 <= t
 . rw [Int.tmod_eq_emod_of_nonneg ht,if_neg (by omega)]
 . rw [Int.tmod_eq_emod]
   by_cases hd:n ∣ t
   . have:=Int.emod_eq_zero_of_dvd hd
     simp [this,hd]
   . have:t % n ≠ 0:=fun h=>hd (Int.dvd_of_emod_eq_zero h)
     rw [if_neg (by simp [hd,ht]),if_pos ⟨this,by omega⟩]
     omega
theorem downTo_any (t n:Int) (w:World) (hn:1 <= n) (hn2:n <= 1099511627776) (h1:-2305843009213693952 <= t) (h2:t <= 2305843009213693952) :
 Calls Tryz.prog 169 #[.int .i64 t,.int .i64 n] w fun e w'=>e = .returned (.int .i64 (down t n)) /\ w' = w:=by
 have hz:¬ n = 0:=by omega
 have hm:=tdiv_tmod_neg t n hn
 have b1:=Int.emod_nonneg t hz
 have b2:=Int.emod_lt_of_pos t (show 0 < n by omega)
 have e1:IntKind.i64.wrap (t.tmod n) = t.tmod n:=by rw [IntKind.wrap_i64,hm];split <;> omega
 by_cases hc:t % n ≠ 0 /\ t < 0
 . rw [if_pos hc] at hm
   have hlt:t.tmod n < 0:=by omega
   go_enter Tryz.func169,Tryz.ntmps169
   go_wp2
   go_ret
   refine ⟨ret_int ?_,rfl⟩
   rw [down]
 . rw [if_neg hc] at hm
   have hlt:¬ t.tmod n < 0:=by omega
   go_enter Tryz.func169,Tryz.ntmps169
   go_wp2
   go_ret
   refine ⟨ret_int ?_,rfl⟩
   rw [down]
theorem floor_any (t n:Int) (w:World) (hn:1 <= n) (hn2:n <= 1099511627776) (h1:-2305843009213693952 <= t) (h2:t <= 2305843009213693952) :
 Calls Tryz.prog 115 #[.int .i64 t,.int .i64 n] w fun e w'=>e = .returned (.int .i64 (down t n)) /\ w' = w:=by
 have hz:¬ n = 0:=by omega
 have hm:=tdiv_tmod_neg t n hn
 have b1:=Int.emod_nonneg t hz
 have b2:=Int.emod_lt_of_pos t (show 0 < n by omega)
 have e1:IntKind.i64.wrap (t.tmod n) = t.tmod n:=by rw [IntKind.wrap_i64,hm];split <;> omega
 have hq:n * t.tdiv n + t.tmod n = t:=Int.mul_tdiv_add_tmod t n
 have hqb:-2305843009213693952 <= t.tdiv n /\ t.tdiv n <= 2305843009213693952:=by
  have:=Int.natAbs_tdiv_le_natAbs t n
  omega
 have e2:IntKind.i64.wrap (t.tdiv n) = t.tdiv n:=by rw [IntKind.wrap_i64];omega
 by_cases hc:t % n ≠ 0 /\ t < 0
 . rw [if_pos hc] at hm
   have hlt:t.tmod n < 0:=by omega
   have e3:IntKind.i64.wrap (t.tdiv n - 1) = t.tdiv n - 1:=by rw [IntKind.wrap_i64];omega
   have e4:(t.tdiv n - 1) * n = down t n:=by rw [down,Int.sub_mul,Int.mul_comm];omega
   have e5:IntKind.i64.wrap (down t n) = down t n:=by rw [IntKind.wrap_i64,down];omega
   go_enter Tryz.func115,Tryz.ntmps115
   go_wp2
   go_ret
   refine ⟨ret_int ?_,rfl⟩
   rfl
 . rw [if_neg hc] at hm
   have hlt:¬ t.tmod n < 0:=by omega
   have e4:t.tdiv n * n = down t n:=by rw [down,Int.mul_comm];omega
   have e5:IntKind.i64.wrap (down t n) = down t n:=by rw [IntKind.wrap_i64,down];omega
   go_enter Tryz.func115,Tryz.ntmps115
   go_wp2
   go_ret
   refine ⟨ret_int ?_,rfl⟩
   rfl
def isConf (size slide late keys:Int):Prop:=1 <= slide /\ slide <= size /\ size <= 1099511627776 /\ size / (Nat.gcd size.toNat slide.toNat:Nat) <= 4096 /\ 0 <= late /\ late <= 1099511627776 /\ 1 <= keys /\ keys <= 16
abbrev confV (size slide late keys:Int):Value:=.agg #[.int .i64 size,.int .i64 slide,.int .i64 late,.int .i64 keys]
theorem isConfig_any (size slide late keys:Int) (w:World) :
 Calls Tryz.prog 67 #[confV size slide late keys] w fun e w'=>(∃ b,e = .returned (.bool b) /\ (b = true ↔ isConf size slide late keys)) /\ Below w.heap.size w w':=by
 by_cases c1:¬ (1 <= slide)
 . have HF:Hid (false = true ↔ isConf size slide late keys):=by
    show false = true ↔ _
    unfold isConf
    simp only [Bool.false_eq_true,false_iff]
    omega
   have d1:decide (1 <= slide) = false:=decide_eq_false c1
   go_enter Tryz.func67,Tryz.ntmps67
   go_wp2_with fail
   go_quiet (fail)
   go_wp2
   go_ret
   exact ⟨⟨_,rfl,HF.out⟩,below_drewN ((Below.refl _ w).alloc (Nat.le_refl _) _) nq⟩
 rw [Decidable.not_not] at c1
 have d1:decide (1 <= slide) = true:=decide_eq_true c1
 by_cases c2:¬ (slide <= size)
 . have HF:Hid (false = true ↔ isConf size slide late keys):=by
    show false = true ↔ _
    unfold isConf
    simp only [Bool.false_eq_true,false_iff]
    omega
   have d2:decide (slide <= size) = false:=decide_eq_false c2
   go_enter Tryz.func67,Tryz.ntmps67
   go_wp2_with fail
   go_quiet (fail)
   go_wp2
   go_ret
   exact ⟨⟨_,rfl,HF.out⟩,below_drewN ((Below.refl _ w).alloc (Nat.le_refl _) _) nq⟩
 rw [Decidable.not_not] at c2
 have d2:decide (slide <= size) = true:=decide_eq_true c2
 by_cases c3:¬ (size <= 1099511627776)
 . have HF:Hid (false = true ↔ isConf size slide late keys):=by
    show false = true ↔ _
    unfold isConf
    simp only [Bool.false_eq_true,false_iff]
    omega
   have d3:decide (size <= 1099511627776) = false:=decide_eq_false c3
   go_enter Tryz.func67,Tryz.ntmps67
   go_wp2_with fail
   go_quiet (fail)
   go_wp2
   go_ret
   exact ⟨⟨_,rfl,HF.out⟩,below_drewN ((Below.refl _ w).alloc (Nat.le_refl _) _) nq⟩
 rw [Decidable.not_not] at c3
 have d3:decide (size <= 1099511627776) = true:=decide_eq_true c3
 obtain ⟨G,X,HG,hq,hG,HC⟩:∃ G X:Int,(∀ W:World,Calls Tryz.prog 87 #[.int .i64 size,.int .i64 slide] W fun e w'=>e = .returned (.int .i64 G) /\ ∃ m,w' = W.drewN m) /\ IntKind.i64.wrap (Int.tdiv size G) = X /\ ¬ G = 0 /\
  Hid (isConf size slide late keys ↔ X <= 4096 /\ 0 <= late /\ late <= 1099511627776 /\ 1 <= keys /\ keys <= 16):=by
  obtain ⟨S,rfl⟩:∃ S:Nat,size = (S:Int):=⟨size.toNat,by omega⟩
  obtain ⟨D,rfl⟩:∃ D:Nat,slide = (D:Int):=⟨slide.toNat,by omega⟩
  have hg0:0 < Nat.gcd S D:=Nat.gcd_pos_of_pos_left _ (by omega)
  have hl:=Nat.div_le_self S (Nat.gcd S D)
  refine ⟨(Nat.gcd S D:Nat),(S / Nat.gcd S D:Nat),fun W=>gcd_any S D W (by omega) (by omega),?_,by omega,?_⟩
  . rw [Int.tdiv_eq_ediv_of_nonneg (by omega),<- Int.natCast_ediv,IntKind.wrap_i64]
    generalize S / Nat.gcd S D = Y at *
    omega
  . show isConf S D late keys ↔ _
    unfold isConf
    rw [Int.toNat_natCast,Int.toNat_natCast,<- Int.natCast_ediv]
    generalize S / Nat.gcd S D = Y at *
    omega
 by_cases c4:¬ (X <= 4096)
 . have HF:Hid (false = true ↔ isConf size slide late keys):=by
    show false = true ↔ _
    have hc:=HC.out
    rw [hc]
    simp
    omega
   have d4:decide (X <= 4096) = false:=decide_eq_false (by omega)
   go_enter Tryz.func67,Tryz.ntmps67
   go_wp2_with fail
   go_quiet ((go_at_call 87;exact Calls.quiet_of (HG _)))
   go_wp2
   go_ret
   exact ⟨⟨_,rfl,HF.out⟩,below_drewN ((Below.refl _ w).alloc (Nat.le_refl _) _) nq⟩
 rw [Decidable.not_not] at c4
 have d4:decide (X <= 4096) = true:=decide_eq_true (by omega)
 by_cases c5:¬ (0 <= late)
 . have HF:Hid (false = true ↔ isConf size slide late keys):=by
    show false = true ↔ _
    have hc:=HC.out
    rw [hc]
    simp
    omega
   have d5:decide (0 <= late) = false:=decide_eq_false c5
   go_enter Tryz.func67,Tryz.ntmps67
   go_wp2_with fail
   go_quiet ((go_at_call 87;exact Calls.quiet_of (HG _)))
   go_wp2
   go_ret
   exact ⟨⟨_,rfl,HF.out⟩,below_drewN ((Below.refl _ w).alloc (Nat.le_refl _) _) nq⟩
 rw [Decidable.not_not] at c5
 have d5:decide (0 <= late) = true:=decide_eq_true c5
 by_cases c6:¬ (late <= 1099511627776)
 . have HF:Hid (false = true ↔ isConf size slide late keys):=by
    show false = true ↔ _
    have hc:=HC.out
    rw [hc]
    simp
    omega
   have d6:decide (late <= 1099511627776) = false:=decide_eq_false c6
   go_enter Tryz.func67,Tryz.ntmps67
   go_wp2_with fail
   go_quiet ((go_at_call 87;exact Calls.quiet_of (HG _)))
   go_wp2
   go_ret
   exact ⟨⟨_,rfl,HF.out⟩,below_drewN ((Below.refl _ w).alloc (Nat.le_refl _) _) nq⟩
 rw [Decidable.not_not] at c6
 have d6:decide (late <= 1099511627776) = true:=decide_eq_true c6
 by_cases c7:¬ (1 <= keys)
 . have HF:Hid (false = true ↔ isConf size slide late keys):=by
    show false = true ↔ _
    have hc:=HC.out
    rw [hc]
    simp
    omega
   have d7:decide (1 <= keys) = false:=decide_eq_false c7
   go_enter Tryz.func67,Tryz.ntmps67
   go_wp2_with fail
   go_quiet ((go_at_call 87;exact Calls.quiet_of (HG _)))
   go_wp2
   go_ret
   exact ⟨⟨_,rfl,HF.out⟩,below_drewN ((Below.refl _ w).alloc (Nat.le_refl _) _) nq⟩
 rw [Decidable.not_not] at c7
 have d7:decide (1 <= keys) = true:=decide_eq_true c7
 by_cases c8:¬ (keys <= 16)
 . have HF:Hid (false = true ↔ isConf size slide late keys):=by
    show false = true ↔ _
    have hc:=HC.out
    rw [hc]
    simp
    omega
   have d8:decide (keys <= 16) = false:=decide_eq_false c8
   go_enter Tryz.func67,Tryz.ntmps67
   go_wp2_with fail
   go_quiet ((go_at_call 87;exact Calls.quiet_of (HG _)))
   go_wp2
   go_ret
   exact ⟨⟨_,rfl,HF.out⟩,below_drewN ((Below.refl _ w).alloc (Nat.le_refl _) _) nq⟩
 rw [Decidable.not_not] at c8
 have d8:decide (keys <= 16) = true:=decide_eq_true c8
 have HF:Hid (true = true ↔ isConf size slide late keys):=by
  show true = true ↔ _
  have hc:=HC.out
  rw [hc]
  simp
  omega
 go_enter Tryz.func67,Tryz.ntmps67
 go_wp2_with fail
 go_quiet ((go_at_call 87;exact Calls.quiet_of (HG _)))
 go_wp2
 go_ret
 exact ⟨⟨_,rfl,by simpa using HF.out⟩,below_drewN ((Below.refl _ w).alloc (Nat.le_refl _) _) nq⟩
end Go.Proofs.YtcfngdnmpogaoaaGreat
namespace Go.Proofs.YtcfngdnmpogaoaaGreat
open Go.RowKit
set_option maxHeartbeats 3200000
structure RSrc where
 opened:Bool
 broken:Bool
 reached:Bool
 reach:Int
 rest:ByteArray
def RSrc.cells (s:RSrc):List Value:=[.bool s.opened,.bool s.broken,.bool s.reached,.int .i64 s.reach,.string s.rest]
def RSrc.zero:RSrc:=⟨false,false,false,0,⟨#[]⟩⟩
structure RCounts where
 taken:Int
 late:Int
 range:Int
 full:Int
 marks:Int
 broken:Int
def RCounts.cells (c:RCounts):List Value:=[.int .i64 c.taken,.int .i64 c.late,.int .i64 c.range,.int .i64 c.full,.int .i64 c.marks,.int .i64 c.broken]
structure RCells where
 size:Int
 slide:Int
 late:Int
 keys:Int
 src:List RSrc
 events:Value
 lined:Bool
 line:Int
 done:Value
 n:RCounts
def RCells.cells (r:RCells):List Value:=
 [.int .i64 r.size,.int .i64 r.slide,.int .i64 r.late,.int .i64 r.keys] ++ r.src.flatMap RSrc.cells ++ [r.events,.bool r.lined,.int .i64 r.line,r.done] ++ r.n.cells
def RCells.new (size slide late keys:Int):RCells:=
 ⟨size,slide,late,keys,List.replicate 8 RSrc.zero,.slice none 0 0,false,0,.slice none 0 0,⟨0,0,0,0,0,0⟩⟩
theorem rnew_any (size slide late keys:Int) (w:World) :
 Calls Tryz.prog 79 #[confV size slide late keys] w fun e w'=>Below w.heap.size w w' /\
  (¬ isConf size slide late keys /\ e = .returned (.tuple #[.pointer none,.int .i64 1]) \/
   isConf size slide late keys /\ ∃ g,w.heap.size <= g /\ e = .returned (.tuple #[.pointer (some ⟨g,0,none⟩),.int .i64 0]) /\ w'.heap[g]? = some (.cells (RCells.new size slide late keys).cells.toArray 140)):=by
 by_cases hA:1 <= slide /\ slide <= size /\ size <= 1099511627776 /\ 0 <= late /\ late <= 1099511627776 /\ 1 <= keys /\ keys <= 16
 . obtain ⟨c1,c2,c3,c4,c5,c6,c7⟩:=hA
   obtain ⟨G,X,HG,hq,hG,HC⟩:∃ G X:Int,(∀ W:World,Calls Tryz.prog 114 #[.int .i64 size,.int .i64 slide] W fun e w'=>e = .returned (.int .i64 G) /\ w' = W) /\ IntKind.i64.wrap (Int.tdiv size G) = X /\ ¬ G = 0 /\
    Hid (isConf size slide late keys ↔ X <= 4096):=by
    obtain ⟨S,rfl⟩:∃ S:Nat,size = (S:Int):=⟨size.toNat,by omega⟩
    obtain ⟨D,rfl⟩:∃ D:Nat,slide = (D:Int):=⟨slide.toNat,by omega⟩
    have hg0:0 < Nat.gcd S D:=Nat.gcd_pos_of_pos_left _ (by omega)
    have hl:=Nat.div_le_self S (Nat.gcd S D)
    refine ⟨(Nat.gcd S D:Nat),(S / Nat.gcd S D:Nat),fun W=>rgcd_any S D W (by omega) (by omega),?_,by omega,?_⟩
    . rw [Int.tdiv_eq_ediv_of_nonneg (by omega),<- Int.natCast_ediv,IntKind.wrap_i64]
      generalize S / Nat.gcd S D = Y at *
      omega
    . show isConf S D late keys ↔ _
      unfold isConf
      rw [Int.toNat_natCast,Int.toNat_natCast,<- Int.natCast_ediv]
      generalize S / Nat.gcd S D = Y at *
      omega
   go_enter Tryz.func79,Tryz.ntmps79
   go_wp2_with fail
   refine (HG _).mono ?_
   rintro e W ⟨rfl,rfl⟩
   by_cases hX:X <= 4096
   . have hX':¬ 4096 < X:=by omega
     go_wp2_with fail
     refine bodyPost_ret (results_tmp2 rfl _ _ _) rfl ⟨((Below.refl _ w).alloc (Nat.le_refl _) _).alloc (by simp) _,Or.inr ⟨HC.out.2 hX,w.heap.size + 1,by omega,rfl,?_⟩⟩
     simp only [World.alloc,Array.getElem?_push,Array.size_push,if_true]
     rfl
   . have hX':4096 < X:=by omega
     go_wp2_with fail
     exact bodyPost_ret (results_tmp2 rfl _ _ _) rfl ⟨(Below.refl _ w).alloc (Nat.le_refl _) _,Or.inl ⟨fun h=>absurd (HC.out.1 h) (by omega),rfl⟩⟩
 . have HF:Hid (¬ isConf size slide late keys):=by
    show ¬ _
    unfold isConf
    omega
   have HA:=hid hA
   clear hA
   go_enter Tryz.func79,Tryz.ntmps79
   go_wp2_with fail
   all_goals first
    | (exfalso;have:=HA.out;omega)
    | exact bodyPost_ret (results_tmp2 rfl _ _ _) rfl ⟨(Below.refl _ w).alloc (Nat.le_refl _) _,Or.inl ⟨HF.out,rfl⟩⟩
end Go.Proofs.YtcfngdnmpogaoaaGreat
namespace Go.Proofs.YtcfngdnmpogaoaaGreat
open Go.RowKit
def u32of (m:Int):Int:=IntKind.u32.wrap m
def signs (m:Int) (n:Nat):List Value:=(List.range n).map fun (i:Nat)=>.int .u8 (signZ m (i:Int))
def tagsOf (m:Int) (n:Nat):List Value:=List.replicate n (.int .u32 (u32of m))
def winCells (m:Int):List Value:=[.string ⟨#[]⟩,.int .i64 0,.int .i64 (wrap64 (-m)),.int .i64 0,.int .i64 0,.int .i64 0,.slice none 0 0]
def winOf (m:Int):Nat -> List Value
 | 0=>[]
 | n + 1=>winCells m ++ winOf m n
theorem signs_len (m:Int) (n:Nat):(signs m n).length = n:=by simp [signs]
theorem tagsOf_len (m:Int) (n:Nat):(tagsOf m n).length = n:=by simp [tagsOf]
theorem winOf_len (m:Int) (n:Nat):(winOf m n).length = n * 7:=by
 induction n with
 | zero=>rfl
 | succ n ih=>simp only [winOf,List.length_append,ih,winCells,List.length_cons,List.length_nil];omega
theorem signs_get (m:Int) (n j:Nat) (h:j < n):(signs m n)[j]? = some (.int .u8 (signZ m (j:Int))):=by simp [signs,h]
theorem tagsOf_get (m:Int) (n j:Nat) (h:j < n):(tagsOf m n)[j]? = some (.int .u32 (u32of m)):=by simp [tagsOf,h]
theorem winOf_get (m:Int) (n j i:Nat) (h:j < n) (hi:i < 7):(winOf m n)[j * 7 + i]? = (winCells m)[i]?:=by
 induction n generalizing j with
 | zero=>omega
 | succ n ih=>
   have hl:(winCells m).length = 7:=rfl
   cases j with
   | zero=>rw [winOf,List.getElem?_append_left (by omega)];congr 1;omega
   | succ j=>
     rw [winOf,List.getElem?_append_right (by omega),hl,show (j + 1) * 7 + i - 7 = j * 7 + i from by omega]
     exact ih j (by omega)
theorem signs_snoc (m:Int) (n:Nat):signs m (n + 1) = signs m n ++ [.int .u8 (signZ m (n:Int))]:=by simp [signs,List.range_succ]
theorem tagsOf_snoc (m:Int) (n:Nat):tagsOf m (n + 1) = tagsOf m n ++ [.int .u32 (u32of m)]:=by simp [tagsOf,List.replicate_succ']
theorem winOf_snoc (m:Int) (n:Nat):winOf m (n + 1) = winOf m n ++ winCells m:=by
 induction n with
 | zero=>simp [winOf]
 | succ n ih=>
   show winCells m ++ winOf m (n + 1) = (winCells m ++ winOf m n) ++ winCells m
   rw [ih,List.append_assoc]
structure HoldD where
 hb:Nat
 m:Int
 nb:Nat
 nt:Nat
 nw:Nat
 vb:Value
 vt:Value
 vw:Value
structure Hold (w:World) (d:HoldD):Prop where
 blk:w.heap[d.hb]? = some (.cells #[d.vb,d.vt,d.vw,.int .i64 d.m] 135 (0,0))
 rb:Row w 5 1 d.vb (signs d.m d.nb)
 rt:Row w 26 1 d.vt (tagsOf d.m d.nt)
 rw_:Row w 70 7 d.vw (winOf d.m d.nw)
 lb:d.nb <= 9223372036854775807
 lt:d.nt <= 9223372036854775807
 lw:d.nw <= 9223372036854775807
theorem hold_cells {w:World} {hb:Nat} {x0 x1 x2 x3:Value} {t:TypeId} (h:w.heap[hb]? = some (.cells #[x0,x1,x2,x3] t (0,0))) :
 w.cell? ⟨hb,0,none⟩ = some x0 /\ w.cell? ⟨hb,1,none⟩ = some x1 /\ w.cell? ⟨hb,2,none⟩ = some x2 /\ w.cell? ⟨hb,3,none⟩ = some x3 /\ (∀ j,w.frozen? ⟨hb,j,none⟩ = false) /\ hb < w.heap.size:=by
 refine ⟨?_,?_,?_,?_,fun j=>frozen_of_row w _ j _ _ h,(Array.getElem?_eq_some_iff.1 h).1⟩ <;> (rw [cell_of_row w _ _ _ _ _ h];rfl)
theorem Row.len {w:World} {e:TypeId} {sz:Nat} {v:Value} {xs:List Value} (h:Row w e sz v xs) (hsz:0 < sz):∃ a cap,v = .slice a (xs.length / sz) cap /\ (∀ j,j < xs.length -> ∃ g off,a = some ⟨g,off,none⟩ /\ w.cell? ⟨g,off + j,none⟩ = xs[j]?):=by
 rcases h with ⟨rfl,rfl⟩ | ⟨g,off,n,cap,cur,rfl,hg,_,_,_,hl,hc⟩
 . exact ⟨none,0,by simp,fun j hj=>by simp at hj⟩
 . refine ⟨some ⟨g,off,none⟩,cap,by rw [hl,Nat.mul_div_cancel _ hsz],fun j hj=>⟨g,off,rfl,?_⟩⟩
   rw [cell_of_row w _ _ cur e (0,0) hg]
   exact hc j (by omega)
end Go.Proofs.YtcfngdnmpogaoaaGreat
namespace Go.Proofs.YtcfngdnmpogaoaaGreat
open Go.RowKit
variable {W a b w:World} {X:Nat -> Prop} {e:TypeId} {sz:Nat} {v:Value} {xs:List Value}
structure Kept (X:Nat -> Prop) (w W:World):Prop where
 os:W.os = w.os
 tape:W.tape = w.tape
 output:W.output = w.output
 size:w.heap.size <= W.heap.size
 block:∀ k,k < w.heap.size -> ¬ X k -> W.heap[k]? = w.heap[k]?
theorem Kept.refl (X:Nat -> Prop) (w:World):Kept X w w:=⟨rfl,rfl,rfl,Nat.le_refl _,fun _ _ _=>rfl⟩
theorem Kept.trans {c:World} (h:Kept X a b) (k:Kept X b c):Kept X a c:=
 ⟨k.os.trans h.os,k.tape.trans h.tape,k.output.trans h.output,Nat.le_trans h.size k.size,fun i hi hx=>(k.block i (Nat.lt_of_lt_of_le hi h.size) hx).trans (h.block i hi hx)⟩
theorem Kept.mono {Y:Nat -> Prop} (h:Kept X a b) (hxy:∀ k,k < a.heap.size -> X k -> Y k):Kept Y a b:=
 ⟨h.os,h.tape,h.output,h.size,fun i hi hy=>h.block i hi (fun hx=>hy (hxy i hi hx))⟩
theorem Kept.step {Y:Nat -> Prop} {c:World} (h:Kept X a b) (k:Kept Y b c) (hy:∀ i,i < a.heap.size -> Y i -> X i):Kept X a c:=
 ⟨k.os.trans h.os,k.tape.trans h.tape,k.output.trans h.output,Nat.le_trans h.size k.size,fun i hi hx=>(k.block i (Nat.lt_of_lt_of_le hi h.size) (fun h'=>hx (hy i hi h'))).trans (h.block i hi hx)⟩
theorem Kept.ofGrown {row:Option Nat} (h:w.grownBy W row):Kept (fun k=>row = some k) w W:=⟨h.os,h.tape,h.output,h.size,fun i hi hx=>h.block i hi (fun e=>hx e.symm)⟩
theorem Kept.ofBelow (h:Below w.heap.size w W) (X:Nat -> Prop):Kept X w W:=⟨h.os,h.tape,h.output,h.size,fun i hi _=>h.block i hi⟩
theorem Kept.toBelow {B:Nat} (h:Kept X w W) (hB:B <= w.heap.size) (hX:∀ k,k < B -> ¬ X k):Below B w W:=⟨h.os,h.tape,h.output,h.size,fun i hi=>h.block i (by omega) (hX i hi)⟩
theorem Kept.alloc (h:Kept X a w) (o:Obj):Kept X a (w.alloc o):=h.step (Kept.ofBelow ((Below.refl _ w).alloc (Nat.le_refl _) o) (fun _=>False)) (fun _ _ h=>h.elim)
theorem Kept.drew (h:Kept X a w):Kept X a w.drew:=⟨h.os,h.tape,h.output,h.size,h.block⟩
theorem Kept.drewN (h:Kept X a w) (n:Nat):Kept X a (w.drewN n):=h.step (Kept.ofBelow (below_drewN (Below.refl _ w) n) (fun _=>False)) (fun _ _ h=>h.elim)
theorem Kept.setCell (h:Kept X a w) (p:Addr) (u:Value) (hp:p.block < a.heap.size -> X p.block):Kept X a (w.setCell p u):=
 ⟨h.os,h.tape,h.output,Nat.le_trans h.size (by simp [World.setCell]),fun i hi hx=>by
  rw [Below.heap_setCell _ _ _ _ (fun e=>hx (by subst e;exact hp hi))];exact h.block i hi hx⟩
theorem Row.kept (h:Row w e sz v xs) (hk:Kept X w W) (hx:∀ k,v.ownBlock = some k -> ¬ X k):Row W e sz v xs:=
 h.congr fun k hv=>hk.block k (h.blk_lt hv).1 (hx k hv)
theorem Row.setCell (h:Row w e sz v xs) (p:Addr) (u:Value) (hp:v.ownBlock ≠ some p.block):Row (w.setCell p u) e sz v xs:=
 h.congr fun k hv=>Below.heap_setCell _ _ _ _ (fun he=>hp (by rw [hv,he]))
theorem Row.ne_block {e':TypeId} (h:Row w e sz v xs) {g:Nat} {c:Array Value} {f:Nat × Nat} (hg:w.heap[g]? = some (.cells c e' f)) (hne:e ≠ e'):v.ownBlock ≠ some g:=by
 intro hk
 obtain ⟨_,c',hc'⟩:=h.blk_lt hk
 rw [hg] at hc'
 simp only [Option.some.injEq,Obj.cells.injEq] at hc'
 exact hne hc'.2.1.symm
theorem step_append {P:Program} {ops:Array Oper} {o:Oper} {a:Act} {K:Act -> World -> Prop} {Q:Exit -> Act -> World -> Prop} {E:Prop} (hgd:o.guard = none) (s x:Operand) (t tx:TypeId)
 (ho:o.op = .call { callee:=.builtin .append,args:=#[s,x],argTypes:=#[t,tx] })
 (e:TypeId) (i:TypeInfo) (z:Value) (sz bytes:Nat) (ht:P.underlying t = some (.slice e)) (hi:P.info? e = some i) (hz:i.zero = some z)
 (hsize:i.size = sz) (hby:i.bytes = bytes) (hzs:z.cells.size = sz) (hsz:0 < sz)
 (v:Value) (xs:List Value) (hev:a.eval s = v) (hrow:Row w e sz v xs) (xv:Value) (m:Nat) (news:List Value) (hx:a.eval x = xv) (hs:Src P sz tx xv m news w) (hm:0 < m)
 (h63:xs.length + m <= maxLen) (hbytes:(xs.length + m * sz) * bytes <= 140737488355328 * sz)
 (h:∀ v' w',App w w' e sz v v' xs news -> K (a.put o.dst v') w') :
 if Region.wanted o (yielded ops a.tmps) = true then Oper.wp P o a w K Q else E:=by
 have hw:Region.wanted o (yielded ops a.tmps) = true:=by simp [Region.wanted,hgd]
 rw [if_pos hw]
 exact wp_append w s x t tx ho e i z sz bytes ht hi hz hsize hby hzs hsz v xs hev hrow xv m news hx hs hm h63 hbytes h
end Go.Proofs.YtcfngdnmpogaoaaGreat
namespace Go.Proofs.YtcfngdnmpogaoaaGreat
abbrev muLink:Go.Conc.Locks.MuLink:={ lock:=42,unlock:=43,ilock:=68,iunlock:=69,lockSlow:=92,unlockSlow:=95,disable:=88,enable:=90,acquire:=91,relMerge:=93,cas32:=89,add32:=94,tMutex:=102,tIMutex:=100,tPMutex:=146,tPIMutex:=164,tPI32:=166,tUP:=168,tNoCopy:=98,tU32:=26 }
theorem muLib:Go.Conc.Locks.MuLib Tryz.prog muLink:=
 ⟨Tryz.func42,Tryz.func43,Tryz.func68,Tryz.func69,Tryz.func88,Tryz.func90,Tryz.func91,Tryz.func93,Tryz.func89,Tryz.func94,Tryz.underlying100,Tryz.runUnderlying100,Tryz.sizeOf100,Tryz.isAgg100,Tryz.zeroValue100,Tryz.underlying102,Tryz.runUnderlying102,Tryz.sizeOf102,Tryz.isAgg102,Tryz.zeroValue102,Tryz.underlying146,Tryz.runUnderlying146,Tryz.sizeOf146,Tryz.isAgg146,Tryz.zeroValue146,Tryz.underlying164,Tryz.runUnderlying164,Tryz.sizeOf164,Tryz.isAgg164,Tryz.zeroValue164,Tryz.underlying166,Tryz.runUnderlying166,Tryz.sizeOf166,Tryz.isAgg166,Tryz.zeroValue166,Tryz.underlying168,Tryz.runUnderlying168,Tryz.sizeOf168,Tryz.isAgg168,Tryz.zeroValue168,Tryz.underlying98,Tryz.runUnderlying98,Tryz.sizeOf98,Tryz.isAgg98,Tryz.zeroValue98,Tryz.underlying21,Tryz.runUnderlying21,Tryz.sizeOf21,Tryz.isAgg21,Tryz.zeroValue21,(by kernel_rfl)⟩
end Go.Proofs.YtcfngdnmpogaoaaGreat
namespace Go.Proofs.YtcfngdnmpogaoaaGreat
open Go.RowKit Go.MuLone
theorem load_any (b off:Nat) (x:Int) (w:World) (h:w.cell? ⟨b,off,none⟩ = some (.int .i64 x)) :
 Calls Tryz.prog 76 #[.pointer (some ⟨b,off,none⟩)] w fun e w'=>e = .returned (.int .i64 x) /\ w' = w:=by
 have hl:=run_call_load (P:=Tryz.prog) Tryz.func110 (by kernel_rfl) (by kernel_rfl) (by kernel_rfl) .i64 (by kernel_rfl) h
 go_enter Tryz.func76,Tryz.ntmps76
 go_wp2
 go_ret
 exact ⟨rfl,rfl⟩
theorem add_any (b off:Nat) (x y:Int) (w:World) (h:w.cell? ⟨b,off,none⟩ = some (.int .i64 x)) (hz:w.frozen? ⟨b,off,none⟩ = false) :
 Calls Tryz.prog 97 #[.pointer (some ⟨b,off,none⟩),.int .i64 y] w fun e w'=>e = .returned (.int .i64 (wrap64 (x + y))) /\ w' = w.setCell ⟨b,off,none⟩ (.int .i64 (wrap64 (x + y))):=by
 have hl:=run_call_add (P:=Tryz.prog) Tryz.func125 (by kernel_rfl) (by kernel_rfl) (by kernel_rfl) .i64 (by kernel_rfl) (y:=y) (s:=wrap64 (x + y)) h hz (by simp [go_sem,IntKind.wrap_i64,wrap64])
 go_enter Tryz.func97,Tryz.ntmps97
 go_wp2
 go_ret
 exact ⟨rfl,rfl⟩
end Go.Proofs.YtcfngdnmpogaoaaGreat

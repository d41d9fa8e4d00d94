import Derived.Test.YtcfngdnmpogaoaaGreatTkT02
import Derived.Deep.RegionHeld3
import Derived.Test.YtcfngdnmpogaoaaGreatTkT09
namespace Go.Proofs.YtcfngdnmpogaoaaGreat
open Go.RowKit
set_option maxHeartbeats 1600000
set_option maxRecDepth 20000
theorem Row.at {w wr:World} {e:TypeId} {sz:Nat} {g off n cap:Nat} {xs:List Value} (h:Row w e sz (.slice (some ⟨g,off,none⟩) n cap) xs) (hb:Below w.heap.size w wr) (j:Nat) (hj:j < n * sz):wr.cell? ⟨g,off + j,none⟩ = xs[j]?:=
 (h.below hb (fun _ hk=>(h.blk_lt hk).1)).cell j hj
theorem slice_some {w:World} {e:TypeId} {sz:Nat} {a:Option Addr} {n cap:Nat} {xs:List Value} (h:Row w e sz (.slice a n cap) xs) (hn:0 < n):∃ g off,a = some ⟨g,off,none⟩:=by
 rcases h with ⟨h,_⟩ | ⟨g,off,n',cap',cur,hv,_⟩
 . simp only [Value.slice.injEq] at h;omega
 . simp only [Value.slice.injEq] at hv;exact ⟨g,off,hv.1⟩
theorem marked_any (d:HoldD) (w:World) (h:Hold w d) :
 Calls Tryz.prog 62 #[.pointer (some ⟨d.hb,0,none⟩)] w fun e w'=>e = .returned (.bool true) /\ Below w.heap.size w w':=by
 obtain ⟨hb,m,nb,nt,nw,vb,vt,vw⟩:=d
 obtain ⟨hblk,hrb,hrt,hrw,lb,lt,lw⟩:=h
 simp only at hblk hrb hrt hrw lb lt lw ⊢
 obtain ⟨ab,cb,rfl,-⟩:=hrb.len (by decide)
 obtain ⟨at_,ct,rfl,-⟩:=hrt.len (by decide)
 obtain ⟨aw,cw,rfl,-⟩:=hrw.len (by decide)
 rw [signs_len,Nat.div_one] at *
 rw [tagsOf_len,Nat.div_one] at *
 rw [winOf_len,Nat.mul_div_cancel _ (by decide)] at *
 obtain ⟨c0,c1,c2,c3,-,hlt⟩:=hold_cells hblk
 have Hc:Hid (∀ wr,Below w.heap.size w wr -> wr.cell? ⟨hb,0,none⟩ = some (.slice ab nb cb) /\ wr.cell? ⟨hb,1,none⟩ = some (.slice at_ nt ct) /\ wr.cell? ⟨hb,2,none⟩ = some (.slice aw nw cw) /\ wr.cell? ⟨hb,3,none⟩ = some (.int .i64 m)):=by
  intro wr hbw
  refine ⟨?_,?_,?_,?_⟩ <;> (rw [hbw.cell (by exact hlt)];assumption)
 have Hrb:=hid hrb
 have Hrt:=hid hrt
 have Hrw:=hid hrw
 clear hrb hrt hrw hblk c0 c1 c2 c3
 go_enter Tryz.func62,Tryz.ntmps62
 go_wp2
 go_loopw [3,4] (fun ok i wr=>∃ k:Nat,k <= nb /\ i = .int .i64 (k:Int) /\ ok = .bool true /\ Below w.heap.size w wr) (fun _ i _=>nb - (intOf i).toNat)
 case atStart=>exact ⟨0,Nat.zero_le _,rfl,rfl,Below.refl _ _⟩
 case round=>
  obtain ⟨k,hk,rfl,rfl,hbw⟩:=hrel
  obtain ⟨c0,c1,c2,c3⟩:=Hc.out _ hbw
  have Hbw:=hid hbw
  clear hbw
  by_cases hkn:k < nb
  . obtain ⟨g,off,rfl⟩:=slice_some Hrb.out (by omega)
    have hcell:=Hrb.out.at Hbw.out k (by omega)
    rw [signs_get m nb k hkn] at hcell
    go_wp2
    go_quiet ((go_at_call 86;exact Calls.quiet_of_same (sign_any _ _ _)))
    go_wp2
    go_roundw
    case rel=>exact ⟨k + 1,by omega,by go_num,by simp,below_drewN Hbw.out nq⟩
    case measure=>simp [intOf];omega
  . clear c0 c1 c2 c3
    obtain ⟨c0,c1,c2,c3⟩:=Hc.out _ Hbw.out
    go_wp2
    clear c0 c1 c2 c3
    go_loopw [3,5] (fun ok i wr=>∃ k:Nat,k <= nt /\ i = .int .i64 (k:Int) /\ ok = .bool true /\ Below w.heap.size w wr) (fun _ i _=>nt - (intOf i).toNat)
    case atStart=>exact ⟨0,Nat.zero_le _,rfl,rfl,Hbw.out⟩
    case round=>
     clear Hbw
     obtain ⟨k,hk,rfl,rfl,hbw⟩:=hrel
     obtain ⟨c0,c1,c2,c3⟩:=Hc.out _ hbw
     have Hbw:=hid hbw
     clear hbw
     by_cases hkn:k < nt
     . obtain ⟨g,off,rfl⟩:=slice_some Hrt.out (by omega)
       have hcell:=Hrt.out.at Hbw.out k (by omega)
       rw [tagsOf_get m nt k hkn,u32of] at hcell
       go_wp2
       go_quiet (fail)
       go_wp2
       go_roundw
       case rel=>exact ⟨k + 1,by omega,by go_num,by simp,below_drewN Hbw.out nq⟩
       case measure=>simp [intOf];omega
     . go_wp2
       clear c0 c1 c2 c3
       go_loopw [3,6] (fun ok i wr=>∃ k:Nat,k <= nw /\ i = .int .i64 (k:Int) /\ ok = .bool true /\ Below w.heap.size w wr) (fun _ i _=>nw - (intOf i).toNat)
       case atStart=>exact ⟨0,Nat.zero_le _,rfl,rfl,Hbw.out⟩
       case round=>
        clear Hbw
        obtain ⟨k,hk,rfl,rfl,hbw⟩:=hrel
        obtain ⟨c0,c1,c2,c3⟩:=Hc.out _ hbw
        have Hbw:=hid hbw
        have hs:=hbw.size
        clear hbw
        by_cases hkn:k < nw
        . obtain ⟨g,off,rfl⟩:=slice_some Hrw.out (by omega)
          have hgl:=(Hrw.out.blk_lt (k:=g) rfl).1
          have hq:∀ i,i < 7 -> wr.cell? ⟨g,off + (k * 7 + i),none⟩ = (winCells m)[i]?:=fun i hi=>by
           rw [Hrw.out.at Hbw.out (k * 7 + i) (by omega),winOf_get m nw k i hkn hi]
          have q0:=hq 0 (by omega)
          have q1:=hq 1 (by omega)
          have q2:=hq 2 (by omega)
          have q3:=hq 3 (by omega)
          have q4:=hq 4 (by omega)
          have q5:=hq 5 (by omega)
          have q6:=hq 6 (by omega)
          simp only [winCells,List.getElem?_cons_zero,List.getElem?_cons_succ,Nat.add_zero,<- Nat.add_assoc] at q0 q1 q2 q3 q4 q5 q6
          clear hq
          have hneg:IntKind.i64.wrap (-m) = wrap64 (-m):=IntWalk.i64_left _
          generalize wrap64 (-m) = NM at *
          have c3':∀ o:Obj,(wr.alloc o).cell? ⟨hb,3,none⟩ = some (.int .i64 m):=fun o=>by
           rw [((Below.refl _ wr).alloc (Nat.le_refl _) o).cell (by show hb < _;omega)];exact c3
          go_wp2
          go_quiet (fail)
          go_wp2
          go_roundw
          case rel=>exact ⟨k + 1,by omega,by go_num,by simp,below_drewN (Hbw.out.alloc hs _) nq⟩
          case measure=>simp [intOf];omega
        . go_wp2
          go_ret
          exact ⟨rfl,Hbw.out⟩
end Go.Proofs.YtcfngdnmpogaoaaGreat
namespace Go.Proofs.YtcfngdnmpogaoaaGreat
open Go.RowKit Go.MuLone
set_option maxHeartbeats 1600000
theorem whole_last (g o c n:Nat) (a b:Int) (w:World) (hn:n + 1 <= 1000000000) (h2:w.cell? ⟨g,o + n * 4 + 2,none⟩ = some (.int .i64 a)) (h3:w.cell? ⟨g,o + n * 4 + 3,none⟩ = some (.int .i64 b)) :
 Calls Tryz.prog 150 #[.slice (some ⟨g,o,none⟩) (n + 1) c] w fun e w'=>e = .returned (.agg #[.int .i64 a,.int .i64 b]) /\ Below w.heap.size w w':=by
 have k2:(w.alloc (.cells #[.int .i64 0,.int .i64 0] 204)).cell? ⟨g,o + n * 4 + 2,none⟩ = some (.int .i64 a):=(((Below.refl w.heap.size w).alloc (Nat.le_refl _) _).cell (World.block_lt_of_cell? w ⟨g,o + n * 4 + 2,none⟩ h2)).trans h2
 have k3:(w.alloc (.cells #[.int .i64 0,.int .i64 0] 204)).cell? ⟨g,o + n * 4 + 3,none⟩ = some (.int .i64 b):=(((Below.refl w.heap.size w).alloc (Nat.le_refl _) _).cell (World.block_lt_of_cell? w ⟨g,o + n * 4 + 3,none⟩ h3)).trans h3
 have e1:((n + 1:Nat):Int) - 1 = (n:Int):=by omega
 have e2:(n:Int) + 1 - 1 = (n:Int):=by omega
 have e3:¬ ((n + 1:Nat):Int) = 0:=by omega
 have e4:¬ (n:Int) + 1 = 0:=by omega
 have e5:(n:Int) < ((n + 1:Nat):Int):=by omega
 have e6:(n:Int) < (n:Int) + 1:=by omega
 go_enter Tryz.func150,Tryz.ntmps150
 go_wp2_with fail
 exact bodyPost_ret (v:=.agg #[.int .i64 a,.int .i64 b]) (by simp [results,Tryz.results150,go_sem]) rfl ⟨rfl,(Below.refl _ w).alloc (Nat.le_refl _) _⟩
theorem levels_at (xs:List (Int × Int)) (x:Int × Int):(levels (xs ++ [x]))[xs.length * 4 + 2]? = some (.int .i64 (runS (xs ++ [x])).1) /\ (levels (xs ++ [x]))[xs.length * 4 + 3]? = some (.int .i64 (runS (xs ++ [x])).2) /\ (levels (xs ++ [x]))[xs.length * 4]? = some (.int .i64 x.1) /\ (levels (xs ++ [x]))[xs.length * 4 + 1]? = some (.int .i64 x.2):=by
 rw [levels_snoc]
 have hl:=levels_length xs
 refine ⟨?_,?_,?_,?_⟩
 . rw [List.getElem?_append_right (by omega),hl,show xs.length * 4 + 2 - xs.length * 4 = 2 from by omega];rfl
 . rw [List.getElem?_append_right (by omega),hl,show xs.length * 4 + 3 - xs.length * 4 = 3 from by omega];rfl
 . rw [List.getElem?_append_right (by omega),hl,show xs.length * 4 - xs.length * 4 = 0 from by omega];rfl
 . rw [List.getElem?_append_right (by omega),hl,show xs.length * 4 + 1 - xs.length * 4 = 1 from by omega];rfl
theorem whole_any (xs:List (Int × Int)) (sv:Value) (w:World) (h:Row w 261 4 sv (levels xs)) (hl:xs.length <= 1000000000) :
 Calls Tryz.prog 150 #[sv] w fun e w'=>e = .returned (.agg #[.int .i64 (runS xs).1,.int .i64 (runS xs).2]) /\ Below w.heap.size w w':=by
 obtain ⟨a,c,hv,-⟩:=h.len (by decide)
 rw [levels_length,Nat.mul_div_cancel _ (by omega)] at hv
 subst hv
 rcases List.eq_nil_or_concat xs with rfl | ⟨ys,x,rfl⟩
 . exact whole_nil a c w
 . rw [List.concat_eq_append] at *
   have hlen:(ys ++ [x]).length = ys.length + 1:=by simp
   rw [hlen] at hl h ⊢
   obtain ⟨g,o,rfl⟩:=slice_some h (by omega)
   obtain ⟨l2,l3,-,-⟩:=levels_at ys x
   have c2:=h.cell (ys.length * 4 + 2) (by omega)
   have c3:=h.cell (ys.length * 4 + 3) (by omega)
   rw [l2] at c2
   rw [l3] at c3
   exact whole_last g o c ys.length _ _ w hl (by rw [Nat.add_assoc];exact c2) (by rw [Nat.add_assoc];exact c3)
end Go.Proofs.YtcfngdnmpogaoaaGreat

import Derived.Test.YtcfngdnmpogaoaaGreatTkT07
namespace Go.Proofs.YtcfngdnmpogaoaaGreat
open Go.RowKit Go.MuLone
set_option maxHeartbeats 1600000
set_option maxRecDepth 20000
theorem downTo_wide (t n:Int) (w:World) (hn:1<=n) (hn2:n<=1099511627776) (h1:-4611686018427387904<=t) (h2:t<=4611686018427387904) :
 Calls Tryz.prog 169 #[.int .i64 t,.int .i64 n] w fun e w'=>e=.returned (.int .i64 (down t n))/\w'=w:=by
 have hz:¬ n=0:=by omega
 have hm:=tdiv_tmod_neg t n hn
 have b1:=Int.emod_nonneg t hz
 have b2:=Int.emod_lt_of_pos t (show 0 < n by omega)
 have e1:IntKind.i64.wrap (t.tmod n)=t.tmod n:=by rw [IntKind.wrap_i64,hm];split <;> omega
 by_cases hc:t % n ≠ 0/\t < 0
 . rw [if_pos hc] at hm
   have hlt:t.tmod n < 0:=by omega
   go_enter Tryz.func169,Tryz.ntmps169
   go_wp2
   go_ret
   refine ⟨ret_int ?_,rfl⟩
   rw [down]
 . rw [if_neg hc] at hm
   have hlt:¬ t.tmod n < 0:=by omega
   go_enter Tryz.func169,Tryz.ntmps169
   go_wp2
   go_ret
   refine ⟨ret_int ?_,rfl⟩
   rw [down]
theorem windowsOf_wide (size slide late keys t:Int) (w:World) (h1:1<=slide) (h2:slide<=size) (h3:size<=1099511627776) (t1:-4611686018427387904<=t - size) (t2:t<=2305843009213693952) :
 Calls Tryz.prog 148 #[confV size slide late keys,.int .i64 t] w fun e w'=>e=.returned (.agg #[.int .i64 (winFirst size slide t),.int .i64 (winLast slide t)])/\Below w.heap.size w w':=by
 have q1:=fun W=>downTo_wide (t - size) slide W h1 (by omega) (by omega) (by omega)
 have q2:=fun W=>downTo_wide t slide W h1 (by omega) (by omega) (by omega)
 have e1:wrap64 (t - size)=t - size:=by unfold wrap64;omega
 have e1':IntKind.i64.wrap (t - size)=t - size:=by rw [IntKind.wrap_i64];omega
 have b1:down (t - size) slide<=t - size/\t - size - slide < down (t - size) slide:=by
  unfold down
  have:=Int.emod_nonneg (t - size) (show slide ≠ 0 by omega)
  have:=Int.emod_lt_of_pos (t - size) (show 0 < slide by omega)
  omega
 have e2:IntKind.i64.wrap (down (t - size) slide+slide)=winFirst size slide t:=by rw [IntKind.wrap_i64,winFirst];omega
 have HW:Hid (winLast slide t=down t slide):=rfl
 rw [HW.out]
 generalize winFirst size slide t=F at *
 generalize down (t - size) slide=D1 at *
 generalize down t slide=D2 at *
 go_enter Tryz.func148,Tryz.ntmps148
 go_wp2_with fail
 refine wp_region_still_tail 14 (by kernel_rfl) (by kernel_rfl) ?_
 simp only [List.take_succ_cons,List.take_zero,List.drop_succ_cons,List.drop_zero]
 have hB:Hid (Below w.heap.size w ((w.alloc (.cells #[.int .i64 size,.int .i64 slide,.int .i64 late,.int .i64 keys] 42)).alloc (.cells #[.int .i64 0,.int .i64 0] 202))):=((Below.refl _ w).alloc (Nat.le_refl _) _).alloc (by simp) _
 have c0:((w.alloc (.cells #[.int .i64 size,.int .i64 slide,.int .i64 late,.int .i64 keys] 42)).alloc (.cells #[.int .i64 0,.int .i64 0] 202)).cell? ⟨w.heap.size,0,none⟩=some (.int .i64 size):=by simp
 have c1:((w.alloc (.cells #[.int .i64 size,.int .i64 slide,.int .i64 late,.int .i64 keys] 42)).alloc (.cells #[.int .i64 0,.int .i64 0] 202)).cell? ⟨w.heap.size,1,none⟩=some (.int .i64 slide):=by simp
 have hx:=(two_new w (.cells #[.int .i64 size,.int .i64 slide,.int .i64 late,.int .i64 keys] 42) (.cells #[.int .i64 0,.int .i64 0] 202)).2
 generalize (w.alloc (.cells #[.int .i64 size,.int .i64 slide,.int .i64 late,.int .i64 keys] 42)).alloc (.cells #[.int .i64 0,.int .i64 0] 202)=W1 at *
 change wpStill Tryz.prog _ W1.drew (fun a'=>wpList Tryz.prog _ _ _ a' W1.drew) _ _
 have c0:W1.drew.cell? ⟨w.heap.size,0,none⟩=some (.int .i64 size):=c0
 have c1:W1.drew.cell? ⟨w.heap.size,1,none⟩=some (.int .i64 slide):=c1
 have hx:W1.drew.heap[w.heap.size+1]?=some (.cells #[.int .i64 0,.int .i64 0] 202 (0,0)):=hx
 have hB:=hid hB.out.drew
 generalize W1.drew=W2 at *
 obtain ⟨x0,x1,xf,-⟩:=cells2At hx
 repeat still_step
 still_call (q1 _)
 repeat still_step
 still_call (q2 _)
 repeat still_step
 refine wpStill_nil ?_
 clear q1 q2
 go_wp2
 have hW:=cells2Put (u:=.int .i64 F) (v:=.int .i64 D2) hx
 have hB2:=(hB.out.setCell (p:=⟨w.heap.size+1,0,none⟩) (by simp) (.int .i64 F)).setCell (p:=⟨w.heap.size+1,1,none⟩) (by simp) (.int .i64 D2)
 clear x0 x1 xf
 generalize (W2.setCell ⟨w.heap.size+1,0,none⟩ (.int .i64 F)).setCell ⟨w.heap.size+1,1,none⟩ (.int .i64 D2)=W at *
 obtain ⟨x0,x1,xf,-⟩:=cells2At hW
 exact bodyPost_ret (v:=.agg #[.int .i64 F,.int .i64 D2]) (by simp [results,Tryz.results148,go_sem,x0,x1]) rfl ⟨rfl,hB2⟩
end Go.Proofs.YtcfngdnmpogaoaaGreat

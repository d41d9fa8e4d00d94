import Derived.Test.YtcfngdnmpogaoaaGreatTkT10
namespace Go.Proofs.YtcfngdnmpogaoaaGreat
open Go.RowKit Go.MuLone
set_option maxHeartbeats 25600000
set_option maxRecDepth 20000
theorem push_of (S so:Nat) (cs:Array Value) (T:TypeId) (a b p q X Y:Int) (sa:Option Addr) (sn sc:Nat) (ls:List Value) (w:World) (hS:w.heap[S]?=some (.cells cs T (0,0))) (hs:cs[so]?=some (.slice sa sn sc)) (hrow:Row w 261 4 (.slice sa sn sc) ls) (hll:ls.length<=4000000000) (hTl:T ≠ 261)
 (wh:∀ W:World,Row W 261 4 (.slice sa sn sc) ls->Calls Tryz.prog 150 #[.slice sa sn sc] W fun e w'=>e=.returned (.agg #[.int .i64 p,.int .i64 q])/\Below W.heap.size W w')
 (jn:∀ W:World,Calls Tryz.prog 151 #[.agg #[.int .i64 p,.int .i64 q],.agg #[.int .i64 a,.int .i64 b]] W fun e w'=>e=.returned (.agg #[.int .i64 X,.int .i64 Y])/\Below W.heap.size W w') :
 Calls Tryz.prog 211 #[.pointer (some ⟨S,so,none⟩),.agg #[.int .i64 a,.int .i64 b]] w fun e w'=>e=.returned (.tuple #[])/\∃ v,w'.heap[S]?=some (.cells (cs.setIfInBounds so v) T (0,0))/\(∀ g,v.ownBlock=some g->(Value.slice sa sn sc).ownBlock=some g\/w.heap.size<=g)/\Row w' 261 4 v (ls++[.int .i64 a,.int .i64 b,.int .i64 X,.int .i64 Y])/\Kept (fun k=>k=S\/(Value.slice sa sn sc).ownBlock=some k) w w':=by
 obtain ⟨i,hi,hz0,hz1,hz2⟩:=info_parts infoLv
 have HWh:Hid (∀ W:World,Row W 261 4 (.slice sa sn sc) ls->Calls Tryz.prog 150 #[.slice sa sn sc] W fun e w'=>e=.returned (.agg #[.int .i64 p,.int .i64 q])/\Below W.heap.size W w'):=wh
 have HSne:Hid ((Value.slice sa sn sc).ownBlock ≠ some S):=hrow.ne_block hS (fun e=>hTl e.symm)
 have HRowA:Hid (∀ W,Below w.heap.size w W->Row W 261 4 (.slice sa sn sc) ls):=fun W hb=>hrow.below hb (fun k hk=>(hrow.blk_lt hk).1)
 clear wh hrow
 have hSs:=blkLt hS
 have hx1:=heap_alloc_new w (.cells #[.int .i64 a,.int .i64 b] 204)
 have hS1:=blkAlloc hS (.cells #[.int .i64 a,.int .i64 b] 204)
 have B1:Hid (Below w.heap.size w (w.alloc (.cells #[.int .i64 a,.int .i64 b] 204)).drew):=((Below.refl _ w).alloc (Nat.le_refl _) _).drew
 go_enter Tryz.func211,Tryz.ntmps211
 go_upto_region 1 with fail
 obtain ⟨B,HB⟩:∃ B,Hid (w.heap.size=B):=⟨_,rfl⟩
 have hBS:B ≠ S:=by rw [<- HB.out];omega
 have hSB:S ≠ B:=Ne.symm hBS
 have hb1:=blkLt hx1
 generalize w.alloc (.cells #[.int .i64 a,.int .i64 b] 204)=W1 at *
 rw [HB.out] at hx1 hb1 B1 HRowA ⊢
 obtain ⟨x0,x1,-,-⟩:=cells2At hx1
 have q0:W1.cell? ⟨S,so,none⟩=some (.slice sa sn sc):=blkCell hS1 hs
 have hSs1:=blkLt hS1
 have HS1:Hid (W1.heap[S]?=some (.cells cs T (0,0))):=hS1
 clear hx1 hS1 hS
 go_region_law (first
  | (refine step_call1 rfl 150 _ _ rfl enterWhole (.slice sa sn sc) rfl _ (HWh.out W1.drew (HRowA.out _ B1.out)) ?_;rintro e w2 ⟨rfl,hb2⟩;refine ⟨_,rfl,?_⟩;have u2:w2.cell? ⟨B,0,none⟩=some (.int .i64 a):=(hb2.cell (p:=⟨B,0,none⟩) hb1).trans x0;have v2:w2.cell? ⟨B,1,none⟩=some (.int .i64 b):=(hb2.cell (p:=⟨B,1,none⟩) hb1).trans x1;have q2:w2.cell? ⟨S,so,none⟩=some (.slice sa sn sc):=(hb2.cell (p:=⟨S,so,none⟩) hSs1).trans q0)
  | (refine step_call2 rfl 151 _ _ _ rfl enterJoined (.agg #[.int .i64 p,.int .i64 q]) (.agg #[.int .i64 a,.int .i64 b]) rfl rfl _ (jn _) ?_;rintro e w3 ⟨rfl,hb3⟩;refine ⟨_,rfl,?_⟩;have z2:W1.heap.size<=w2.heap.size:=hb2.size;have u3:w3.cell? ⟨B,0,none⟩=some (.int .i64 a):=(hb3.cell (p:=⟨B,0,none⟩) (Nat.lt_of_lt_of_le hb1 z2)).trans u2;have v3:w3.cell? ⟨B,1,none⟩=some (.int .i64 b):=(hb3.cell (p:=⟨B,1,none⟩) (Nat.lt_of_lt_of_le hb1 z2)).trans v2;have q3:w3.cell? ⟨S,so,none⟩=some (.slice sa sn sc):=(hb3.cell (p:=⟨S,so,none⟩) (Nat.lt_of_lt_of_le hSs1 z2)).trans q2;have z3:W1.heap.size<=w3.heap.size:=Nat.le_trans z2 hb3.size;have q3A:∀ o,(w3.alloc o).cell? ⟨S,so,none⟩=some (.slice sa sn sc):=(fun o=>(((Below.refl w3.heap.size w3).alloc (Nat.le_refl _) o).cell (p:=⟨S,so,none⟩) (Nat.lt_of_lt_of_le hSs1 z3)).trans q3);have B3:Below B w w3:=B1.out.trans ((hb2.mono (Nat.le_of_lt hb1)).trans (hb3.mono (Nat.le_trans (Nat.le_of_lt hb1) z2))))
  | (refine step_append rfl _ _ _ _ rfl 261 i (.agg #[.int .i64 0,.int .i64 0,.int .i64 0,.int .i64 0]) 4 32 Tryz.underlying238 hi hz0 hz1 hz2 rfl (by decide) (.slice sa sn sc) ls rfl (HRowA.out _ (B3.alloc (Nat.le_trans (Nat.le_of_lt hb1) z3) (.cells #[.int .i64 a,.int .i64 b,.int .i64 X,.int .i64 Y] 261))) (.slice (some ⟨w3.heap.size,0,none⟩) 1 1) 1 [.int .i64 a,.int .i64 b,.int .i64 X,.int .i64 Y] rfl ?_ Nat.one_pos ?_ ?_ ?_;exact Src.ofSlice _ Tryz.underlying238 ⟨w3.heap.size,0,none⟩ 1 1 _ rfl (row_new w3 _ _) (by simp [Value.oneCell']);(simp only [maxLen];omega);omega;intro sv w4 ha;have hsh:=ha.row.shape (by simp);obtain ⟨vg,vo,vn,vc,rfl,hvn,-⟩:=hsh;have v4:w4.heap[S]?=some (.cells cs T (0,0)):=(ha.grown.block S (by have:=Nat.lt_of_lt_of_le hSs1 z3;simp;omega) (fun e=>HSne.out e.symm)).trans ((((Below.refl w3.heap.size w3).alloc (Nat.le_refl _) _).block S (Nat.lt_of_lt_of_le hSs1 z3)).trans ((hb3.block S (Nat.lt_of_lt_of_le hSs1 z2)).trans ((hb2.block S hSs1).trans HS1.out)));have q4:w4.cell? ⟨S,so,none⟩=some (.slice sa sn sc):=blkCell v4 hs;have f4:w4.frozen? ⟨S,so,none⟩=false:=blkFrozen v4 so))
 all_goals
  have hr4:Row w4 261 4 (.slice (some ⟨vg,vo,none⟩) vn vc) (ls++[.int .i64 a,.int .i64 b,.int .i64 X,.int .i64 Y]):=ha.row
  have kA:Kept (fun k=>(Value.slice sa sn sc).ownBlock=some k) w3 w4:=((Kept.refl _ w3).alloc _).step (Kept.ofGrown ha.grown) (fun _ _ h=>h)
  have k4:Kept (fun k=>k=S\/(Value.slice sa sn sc).ownBlock=some k) w w4:=(Kept.ofBelow (by rw [HB.out];exact B3) _).step kA (fun _ _ h=>.inr h)
  have hgo:∀ g,(Value.slice (some ⟨vg,vo,none⟩) vn vc).ownBlock=some g->(Value.slice sa sn sc).ownBlock=some g\/w3.heap.size<=g:=fun g hg=>by
   rcases ha.step with ⟨h1,_⟩ | ⟨h1,_⟩
   . exact .inl (by rw [<- h1];exact hg)
   . rw [h1] at hg
     simp only [Option.some.injEq] at hg
     simp at hg
     exact .inr (by omega)
  have hS3:S < w3.heap.size:=Nat.lt_of_lt_of_le hSs1 z3
  have hvS:(Value.slice (some ⟨vg,vo,none⟩) vn vc).ownBlock ≠ some S:=fun e=>by
   rcases hgo S e with h1 | h1
   . exact HSne.out h1
   . omega
  go_end0
  refine ⟨rfl,_,blkPut v4 so _,fun g hg=>?_,hr4.setCell ⟨S,so,none⟩ _ hvS,k4.setCell ⟨S,so,none⟩ _ (fun _=>.inl rfl)⟩
  rcases hgo g hg with h1 | h1
  . exact .inl h1
  . exact .inr (by rw [HB.out];omega)
end Go.Proofs.YtcfngdnmpogaoaaGreat

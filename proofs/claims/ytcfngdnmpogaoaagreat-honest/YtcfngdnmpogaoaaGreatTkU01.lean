import Derived.Test.YtcfngdnmpogaoaaGreatTkT09
import Derived.StillTailTactics
namespace Go.Proofs.YtcfngdnmpogaoaaGreat
open Go.RowKit Go.MuLone
set_option maxHeartbeats 1600000
set_option maxRecDepth 20000
theorem total_enter (T P M:Nat) (c s:Int) (first last count sum least greatest:Int) (w:World) (hT:w.heap[T]?=some (.cells #[.int .i64 c,.int .i64 s] 214 (0,0)))
 (hp:w.heap[P]?=some (.cells (paneCells first last count sum least greatest M) 207 (0,0))) (hTP:P ≠ T) :
 Calls Tryz.prog 207 #[.pointer (some ⟨T,0,none⟩),.pointer (some ⟨P,0,none⟩)] w fun e w'=>e=.returned (.tuple #[])/\w'.heap[T]?=some (.cells #[.int .i64 (wrap64 (c+count)),.int .i64 (wrap64 (s+sum))] 214 (0,0))/\Kept (fun k=>k=T) w w':=by
 have e1:IntKind.i64.wrap (c+count)=wrap64 (c+count):=IntWalk.i64_left _
 have e2:IntKind.i64.wrap (s+sum)=wrap64 (s+sum):=IntWalk.i64_left _
 obtain ⟨C,HC⟩:∃ C,Hid (wrap64 (c+count)=C):=⟨_,rfl⟩
 obtain ⟨S,HS⟩:∃ S,Hid (wrap64 (s+sum)=S):=⟨_,rfl⟩
 rw [HC.out] at e1 ⊢
 rw [HS.out] at e2 ⊢
 go_enter Tryz.func207,Tryz.ntmps207
 go_upto_region 0 with fail
 refine wp_region_still_tail 11 (by kernel_rfl) (by kernel_rfl) ?_
 simp only [List.take_succ_cons,List.take_zero,List.drop_succ_cons,List.drop_zero]
 change wpStill Tryz.prog _ w.drew (fun a'=>wpList Tryz.prog _ _ _ a' w.drew) _ _
 have hT1:w.drew.heap[T]?=some (.cells #[.int .i64 c,.int .i64 s] 214 (0,0)):=hT
 have hp1:w.drew.heap[P]?=some (.cells (paneCells first last count sum least greatest M) 207 (0,0)):=hp
 have K1:Hid (Kept (fun k=>k=T) w w.drew):=(Kept.refl _ w).drew
 generalize w.drew=W1 at *
 obtain ⟨x0,x1,xf,-⟩:=cells2At hT1
 obtain ⟨-,-,c2,c3,-,-,-,-⟩:=paneAt hp1
 repeat still_step
 refine wpStill_nil ?_
 go_wp2
 have hT2:(W1.setCell ⟨T,0,none⟩ (.int .i64 C)).heap[T]?=some (.cells #[.int .i64 C,.int .i64 s] 214 (0,0)):=blkPut hT1 0 _
 have hp2:=blkOther hp1 T 0 (.int .i64 C) hTP
 have K2:Hid (Kept (fun k=>k=T) w (W1.setCell ⟨T,0,none⟩ (.int .i64 C))):=K1.out.setCell ⟨T,0,none⟩ _ (fun _=>rfl)
 clear x0 x1 xf c2 c3 hT1 hp1
 generalize W1.setCell ⟨T,0,none⟩ (.int .i64 C)=W2 at *
 go_upto_region 1 with fail
 refine wp_region_still_tail 11 (by kernel_rfl) (by kernel_rfl) ?_
 simp only [List.take_succ_cons,List.take_zero,List.drop_succ_cons,List.drop_zero]
 change wpStill Tryz.prog _ W2.drew (fun a'=>wpList Tryz.prog _ _ _ a' W2.drew) _ _
 have hT3:W2.drew.heap[T]?=some (.cells #[.int .i64 C,.int .i64 s] 214 (0,0)):=hT2
 have hp3:W2.drew.heap[P]?=some (.cells (paneCells first last count sum least greatest M) 207 (0,0)):=hp2
 have K3:=hid K2.out.drew
 generalize W2.drew=W3 at *
 obtain ⟨x0,x1,xf,-⟩:=cells2At hT3
 obtain ⟨-,-,c2,c3,-,-,-,-⟩:=paneAt hp3
 repeat still_step
 refine wpStill_nil ?_
 go_wp2
 go_end0
 exact ⟨rfl,blkPut hT3 1 _,K3.out.setCell ⟨T,1,none⟩ _ (fun _=>rfl)⟩
end Go.Proofs.YtcfngdnmpogaoaaGreat
namespace Go.Proofs.YtcfngdnmpogaoaaGreat
open Go.RowKit Go.MuLone
set_option maxHeartbeats 1600000
set_option maxRecDepth 20000
theorem total_go (T P M:Nat) (c s:Int) (first last count sum least greatest:Int) (w:World) (hT:w.heap[T]?=some (.cells #[.int .i64 c,.int .i64 s] 214 (0,0)))
 (hp:w.heap[P]?=some (.cells (paneCells first last count sum least greatest M) 207 (0,0))) (hTP:P ≠ T) :
 Calls Tryz.prog 208 #[.pointer (some ⟨T,0,none⟩),.pointer (some ⟨P,0,none⟩)] w fun e w'=>e=.returned (.tuple #[])/\w'.heap[T]?=some (.cells #[.int .i64 (wrap64 (c - count)),.int .i64 (wrap64 (s - sum))] 214 (0,0))/\Kept (fun k=>k=T) w w':=by
 have e1:IntKind.i64.wrap (c - count)=wrap64 (c - count):=IntWalk.i64_left _
 have e2:IntKind.i64.wrap (s - sum)=wrap64 (s - sum):=IntWalk.i64_left _
 obtain ⟨C,HC⟩:∃ C,Hid (wrap64 (c - count)=C):=⟨_,rfl⟩
 obtain ⟨S,HS⟩:∃ S,Hid (wrap64 (s - sum)=S):=⟨_,rfl⟩
 rw [HC.out] at e1 ⊢
 rw [HS.out] at e2 ⊢
 go_enter Tryz.func208,Tryz.ntmps208
 go_upto_region 0 with fail
 refine wp_region_still_tail 11 (by kernel_rfl) (by kernel_rfl) ?_
 simp only [List.take_succ_cons,List.take_zero,List.drop_succ_cons,List.drop_zero]
 change wpStill Tryz.prog _ w.drew (fun a'=>wpList Tryz.prog _ _ _ a' w.drew) _ _
 have hT1:w.drew.heap[T]?=some (.cells #[.int .i64 c,.int .i64 s] 214 (0,0)):=hT
 have hp1:w.drew.heap[P]?=some (.cells (paneCells first last count sum least greatest M) 207 (0,0)):=hp
 have K1:Hid (Kept (fun k=>k=T) w w.drew):=(Kept.refl _ w).drew
 generalize w.drew=W1 at *
 obtain ⟨x0,x1,xf,-⟩:=cells2At hT1
 obtain ⟨-,-,c2,c3,-,-,-,-⟩:=paneAt hp1
 repeat still_step
 refine wpStill_nil ?_
 go_wp2
 have hT2:(W1.setCell ⟨T,0,none⟩ (.int .i64 C)).heap[T]?=some (.cells #[.int .i64 C,.int .i64 s] 214 (0,0)):=blkPut hT1 0 _
 have hp2:=blkOther hp1 T 0 (.int .i64 C) hTP
 have K2:Hid (Kept (fun k=>k=T) w (W1.setCell ⟨T,0,none⟩ (.int .i64 C))):=K1.out.setCell ⟨T,0,none⟩ _ (fun _=>rfl)
 clear x0 x1 xf c2 c3 hT1 hp1
 generalize W1.setCell ⟨T,0,none⟩ (.int .i64 C)=W2 at *
 go_upto_region 1 with fail
 refine wp_region_still_tail 11 (by kernel_rfl) (by kernel_rfl) ?_
 simp only [List.take_succ_cons,List.take_zero,List.drop_succ_cons,List.drop_zero]
 change wpStill Tryz.prog _ W2.drew (fun a'=>wpList Tryz.prog _ _ _ a' W2.drew) _ _
 have hT3:W2.drew.heap[T]?=some (.cells #[.int .i64 C,.int .i64 s] 214 (0,0)):=hT2
 have hp3:W2.drew.heap[P]?=some (.cells (paneCells first last count sum least greatest M) 207 (0,0)):=hp2
 have K3:=hid K2.out.drew
 generalize W2.drew=W3 at *
 obtain ⟨x0,x1,xf,-⟩:=cells2At hT3
 obtain ⟨-,-,c2,c3,-,-,-,-⟩:=paneAt hp3
 repeat still_step
 refine wpStill_nil ?_
 go_wp2
 go_end0
 exact ⟨rfl,blkPut hT3 1 _,K3.out.setCell ⟨T,1,none⟩ _ (fun _=>rfl)⟩
end Go.Proofs.YtcfngdnmpogaoaaGreat

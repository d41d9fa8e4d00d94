/-
  WHAT IS PROVED HERE: 'silllaw.All' returns true for every script whose reading is of bulk at most 1048576 (the row's own condition), and the script reads behind the call as it read before. NO CONDITION of ours besides.
-/
import Derived.Test.YtcfngdnmpogaoaaGreatTkU42
namespace Go.Proofs.YtcfngdnmpogaoaaGreat
open Go.RowKit Go.ChangeShapes Go.WideShapes Go.ChangeAt
set_option maxHeartbeats 1600000
set_option maxRecDepth 100000
theorem all_walk (v:Value) (w:World) (hu:∀ W,Below w.heap.size w W->Calls Tryz.prog 13 #[v,.int .i64 1,.int .i64 9] W fun e w'=>e=.returned (.int .i64 (-1))/\Below W.heap.size W w') :
 Calls Tryz.prog 11 #[v] w fun e w'=>e=.returned (.bool true)/\Below w.heap.size w w':=by
 have HU:=hid hu
 clear hu
 go_enter Tryz.func11,Tryz.ntmps11
 go_wp2_with fail
 refine (example_all 1 9 (by omega) (by omega) w).mono ?_
 rintro e W1 ⟨rfl,hb1⟩
 have HB:=hid hb1
 clear hb1
 go_wp2_with fail
 refine (HU.out W1 HB.out).mono ?_
 rintro e W2 ⟨rfl,hb2⟩
 have HB2:=hid hb2
 clear hb2
 go_wp2
 go_ret
 exact ⟨rfl,HB.out.trans (HB2.out.mono HB.out.size)⟩
theorem all_lifted (os:Os) (started:os.Started) (H:Type) (enc:TypeId × Value->H) (F:Stop.Interp) :
 ReturnsInHanded {} Tryz.checked os 11 .any ((Rows.OpenSpec.upto Rows.allSpec).pre6 enc Tryz.prog Tryz.f11 Rows.allUptoRow.domain false) (((Rows.OpenSpec.upto Rows.allSpec).at F).post enc Tryz.prog Tryz.f11 false true false false):=by
 refine returnsInHanded_of_cond (C:=Tryz.checked) (s:=Rows.OpenSpec.upto Rows.allSpec) (k:=Rows.uptoSmall) rfl ownL started (by kernel_rfl) Tryz.func11
  (OpenSpec.witness (enc:=enc) (C:=Tryz.checked) (s:=Rows.OpenSpec.upto Rows.allSpec) (k:=Rows.uptoSmall) rfl false ⟨#[],#[.slice none 0 0],[]⟩ 8 (by kernel_rfl) (by kernel_rfl) (by kernel_rfl)
   (x:=([.nil],[],[])) (by kernel_rfl) rfl (by kernel_rfl)) ?_
 intro W base args ds gs before hval0 hW _ hk0 _
 have hval:∀ (j:Nat) t v,Tryz.f11.params[j]?=some t->args[j]?=some v->Value.okWide Tryz.prog W .any base t v:=hval0
 have hk:=of_decide_eq_true hk0
 have hW':=hW
 obtain ⟨p,q,hA0,hV,rfl,_,_⟩:=hW
 have hA:DataW.TrodAll enc Tryz.prog W 0 (fun _=>true) true Tryz.f11.params.toList args.toList ds p:=hA0
 rw [Tryz.params11] at hA hval
 obtain ⟨v0,d0,rfl,rfl,h0⟩:=trodAll_one hA
 obtain ⟨rfl,rfl⟩:=trodVars_none hV
 have h0k:=h0
 obtain ⟨fuel,hf⟩:=h0
 clear hA0 hval0
 simp only [List.append_nil] at hW' hk
 have hk1:Rows.uptoBulk d0<=1048576:=by
  simp only [Rows.uptoBulkAll] at hk;omega
 have hlt:∀ x ∈ p,x.block < W.heap.size:=fun x hx=>by simpa using hW'.lt x hx
 have hargs:∀ (W':World),Below W.heap.size W W'->DataW.Trod enc Tryz.prog W' 0 (fun b=>decide (b < W.heap.size)) true 22 v0 d0 p:=
  fun W' hn=>Below.trod laidOutL (by kernel_rfl) (of_decide_eq_true (by kernel_rfl)) h0k hn hlt
 obtain ⟨a0,len,cap,rfl⟩:=okWide_slice Tryz.underlying22 (hval 0 22 v0 rfl rfl)
 have hwalk:Calls Tryz.prog 11 #[.slice a0 len cap] W fun e w'=>e=.returned (.bool true)/\Below W.heap.size W w':=by
  refine all_walk _ W (fun W1 hb1=>?_)
  rcases open_scriptN hf hk1 hlt with ⟨a,c,hcs⟩ | ⟨b,off,c,ops,hcs,hsc,hb,hfit,hlen,hsum⟩
  . simp [Value.cells] at hcs
    obtain ⟨rfl,rfl,rfl⟩:=hcs
    exact upToL_empty 1 9 a0 cap W1
  . simp [Value.cells] at hcs
    obtain ⟨rfl,rfl,rfl⟩:=hcs
    have hk:=Kept.ofBelow hb1 (fun _=>False)
    exact upTo_all 1 9 (by omega) (by omega) b off cap ops W1 (hsc.kept hk hb id) (by have:=hb1.size;omega) hfit hlen hsum
 refine hwalk.mono fun e W' ⟨he,hb⟩=>?_
 subst he
 exact ⟨_,rfl,⟨_,_,_,[],_,[],hW',trodAll_mk1 (shut_bool Tryz.underlying4 _),trodAll_mk1 (hargs W' hb),rfl,hb.frame _,fun h=>by cases h⟩⟩
theorem all_holds:Rows.AllUptoSaid:=
 OpenClaim.holds_of_cond 11 Tryz.f11 rfl rfl rfl rfl rfl rfl rfl ⟨rfl,rfl,rfl,rfl,rfl⟩ rfl rfl rfl rfl rfl (by kernel_rfl) Tryz.func11 (by kernel_rfl)
  (of_decide_eq_true (by kernel_rfl)) (by unfold Func.isWrapper;first | (rw [if_pos (by decide +kernel)];kernel_rfl) | (rw [if_neg (by decide +kernel)];exact ⟨rfl,rfl⟩))
  (fun os started H enc _ F=>all_lifted os started H enc F)
end Go.Proofs.YtcfngdnmpogaoaaGreat

import Derived.Test.YtcfngdnmpogaoaaGreatTkT36
import Derived.Test.YtcfngdnmpogaoaaGreatTkT33
namespace Go.Proofs.YtcfngdnmpogaoaaGreat
open Go.RowKit Go.MuLone
set_option maxHeartbeats 1600000
theorem Took.unlock {w W2:World} {g:Nat} {r:SCells} {F0:Nat->Prop} {GS ES:List RunX} {E:List Ev} {ov:Value} {gs:List RunX} {ys:List WinX} (h:Took (w.setCell ⟨g,0,none⟩ (.int .i32 1)) W2 g (r.lock 1) F0 GS ES E ov gs ys) (hlk:r.lk=0) (hg:F0 g):Took w (W2.setCell ⟨g,0,none⟩ (.int .i32 0)) g r F0 GS ES E ov gs ys:=by
 have k0:Kept F0 w (w.setCell ⟨g,0,none⟩ (.int .i32 1)):=(Kept.refl _ w).setCell ⟨g,0,none⟩ _ (fun _=>hg)
 have k2:Kept (fun k=>k=g) W2 (W2.setCell ⟨g,0,none⟩ (.int .i32 0)):=(Kept.refl _ W2).setCell ⟨g,0,none⟩ _ (fun _=>rfl)
 have hsz:(w.setCell ⟨g,0,none⟩ (.int .i32 1)).heap.size=w.heap.size:=by simp
 have hsf:=h.lp.flow.sf.putLock 0
 have he:((r.lock 1).setEnded (.slice none 0 0)).lock 0=r.setEnded (.slice none 0 0):=by
  obtain ⟨a1,a2,a3,a4,a5,a6,a7,a8,a9,a10,a11⟩:=r
  simp only at hlk
  subst hlk;rfl
 rw [he] at hsf
 have hap:=h.lp.flow.apartW h.lp.wins.row (.inl rfl)
 refine ⟨⟨h.lp.flow.turn k2 hsf rfl rfl,h.lp.wins.kept k2 (fun k hk e=>hap k hk (.inl e)) (fun x hx k hk e=>h.lp.flow.apartW (h.lp.wins.tags x hx).1 (.inr rfl) k hk (.inl e)),fun k hk=>?_,fun k hk=>?_,fun x hx k hk=>?_,?_,h.lp.ap⟩,h.runs,h.perm,h.order⟩
 . have:=h.lp.foot k hk;rw [hsz] at this;exact this
 . have:=h.lp.own k hk;rw [hsz] at this;exact this
 . have:=h.lp.tg x hx k hk;rw [hsz] at this;exact this
 . exact (k0.trans h.lp.kept).step k2 (fun k _ e=>by rw [e];exact hg)
theorem take_any (HRis:RisingOk) (HSo:SortOk) (g:Nat) (r:SCells) (GS ES:List RunX) (E:List Ev) (T:Option Int) (w:World) (hF:FlowAt w g r GS ES) (hlk:r.lk=0) (hO:TkOk (stOf r GS ES) E T) :
 Calls Tryz.prog 25 #[.pointer (some ⟨g,0,none⟩)] w fun e w'=>∃ ov gs ys,e=.returned ov/\Took w w' g r (flowFoot g r GS ES) GS ES E ov gs ys:=by
 have h0:=hF.sf.lockAt hlk
 have f0:=hF.sf.frozen 0
 have K1:Kept (fun k=>k=g) w (w.setCell ⟨g,0,none⟩ (.int .i32 1)):=(Kept.refl _ w).setCell ⟨g,0,none⟩ _ (fun _=>rfl)
 have F1:FlowAt (w.setCell ⟨g,0,none⟩ (.int .i32 1)) g (r.lock 1) GS ES:=hF.turn K1 (hF.sf.putLock 1) rfl rfl
 have HT1:Hid (Calls Tryz.prog 47 #[.pointer (some ⟨g,0,none⟩)] (w.setCell ⟨g,0,none⟩ (.int .i32 1)) fun e w'=>∃ ov gs ys,e=.returned ov/\Took (w.setCell ⟨g,0,none⟩ (.int .i32 1)) w' g (r.lock 1) (flowFoot g r GS ES) GS ES E ov gs ys):=takeFinished_any HRis HSo g (r.lock 1) GS ES E T _ F1 hO
 have HG:Hid (flowFoot g r GS ES g):=.inl rfl
 have HL:=hid hlk
 obtain ⟨F0,HF0⟩:∃ F0,Hid (flowFoot g r GS ES=F0):=⟨_,rfl⟩
 rw [HF0.out] at HT1 HG ⊢
 clear HRis HSo hO K1 F1 hF hlk HF0
 go_enter_defers Tryz.func25,Tryz.ntmps25
 go_wp2_with (go_at_call 42;refine (lock_free muLib ⟨g,0,none⟩ _ h0 f0).mono ?_;rintro e w' ⟨rfl,rfl⟩)
 clear h0 f0
 obtain ⟨W1,HW1⟩:∃ W1,Hid (w.setCell ⟨g,0,none⟩ (.int .i32 1)=W1):=⟨_,rfl⟩
 rw [HW1.out] at HT1 ⊢
 refine HT1.out.mono ?_
 rintro e W2 ⟨ov,gs,ys,rfl,hT⟩
 have HT:=hid hT
 clear hT HT1
 go_wp2
 refine leaves_cons (f:=43) (args:=#[.pointer (some ⟨g,0,none⟩)]) (by simp) (by simp [go_sem]) ?_
 refine (unlock_deferred muLib ⟨g,0,none⟩ .returning _ (HT.out.lp.flow.sf.lockAt rfl) (HT.out.lp.flow.sf.frozen _)).mono ?_
 rintro e u' w'' ⟨rfl,rfl,rfl⟩
 refine ⟨_,results_tmp rfl _ _ _,ov,gs,ys,rfl,?_⟩
 have h9:=HT.out
 rw [<- HW1.out] at h9
 exact h9.unlock HL.out HG.out
def tookT (sp:Sp) (T:Option Int):Option Int:=if sp.li then some sp.lt else T
theorem take_on (HRis:RisingOk) (HSo:SortOk) (g:Nat) (c:Cf) (sp:Sp) (rs:List (List UInt8)) (F:Nat->Prop) (T:Option Int) (w:World) (h:FlowOn w g c sp rs F T) (hli:sp.E ≠ []->sp.li=true) (hE:sp.E.length<=200000) (hz:c.size<=4096*c.slide) (hlt:sp.lt<=2305843009213693952) :
 Calls Tryz.prog 25 #[.pointer (some ⟨g,0,none⟩)] w fun e w'=>∃ ov ys,e=.returned ov/\WinsAt w' ov ys 0/\DoneOk c.size c.slide T sp.lt sp.li sp.E (ys.map WinX.w)/\(∀ k,ov.ownBlock=some k->w.heap.size<=k)/\(∀ x ∈ ys,∀ k,x.tv.ownBlock=some k->w.heap.size<=k)/\ys.Pairwise tvAp/\FlowOn w' g c sp rs (Grown F w) (tookT sp T)/\Kept F w w':=by
 obtain ⟨us,⟨st,⟨r,gs,es,hA,rfl,hlk,rfl,hF⟩,hm,hfit,h4,rfl⟩,h2⟩:=h
 have e1:(stOf r gs es).lt=sp.lt:=congrArg Sp.lt h4
 have e2:(stOf r gs es).li=sp.li:=congrArg Sp.li h4
 have hO:TkOk (stOf r gs es) sp.E T:=⟨hm,fun h0=>by rw [e2];exact hli h0,hE,hz,by rw [e1];exact hlt⟩
 refine (take_any HRis HSo g r gs es sp.E T w hA hlk hO).mono ?_
 rintro e w' ⟨ov,gs',ys,rfl,hT⟩
 have hst:stOf (r.setEnded (.slice none 0 0)) gs' []=(stOf r gs es).taken:=by
  unfold stOf St.taken
  rw [hT.runs];rfl
 have hmod:Mod (stOf (r.setEnded (.slice none 0 0)) gs' []) sp.E (tookT sp T):=by
  rw [hst]
  unfold tookT
  by_cases hl:sp.li=true
  . rw [if_pos hl,<- e1]
    exact hm.taken (by rw [e2];exact hl)
  . rw [if_neg hl]
    have hE0:sp.E=[]:=Classical.not_not.1 (fun h0=>hl (hli h0))
    rw [hE0] at hm ⊢
    obtain ⟨v1,v2⟩:=hm.void
    refine hm.congr rfl rfl rfl rfl rfl rfl ?_ ?_
    . show (stOf r gs es).gs.map _=_
      rw [v2];rfl
    . rw [v1];rfl
 refine ⟨ov,ys,rfl,hT.lp.wins,?_,hT.lp.own,hT.lp.tg,hT.lp.ap,⟨_,⟨_,⟨r.setEnded (.slice none 0 0),gs',[],hT.lp.flow,rfl,hlk,rfl,fun k hk=>?_⟩,hmod,hfit,?_,rfl⟩,h2.step (hA.bytes8 hT.lp.kept) (fun k hk=>.inl hk)⟩,hT.lp.kept.mono (fun k _ hk=>hF k hk)⟩
 . rw [<- e1,<- e2]
   exact hm.sorted hO.li hT.perm hT.order
 . rcases hT.lp.foot k hk with h5 | h5
   . exact .inl (hF k h5)
   . exact .inr h5
 . rw [<- h4];rfl
end Go.Proofs.YtcfngdnmpogaoaaGreat

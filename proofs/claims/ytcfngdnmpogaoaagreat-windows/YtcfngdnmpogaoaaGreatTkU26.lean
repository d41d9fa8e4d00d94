import Derived.Test.YtcfngdnmpogaoaaGreatTkU17
namespace Go.Proofs.YtcfngdnmpogaoaaGreat
open Go.RowKit
theorem rfeed_out (g:Nat) (n:Int) (b:ByteArray) (w:World) (hn:¬ (0<=n/\n < 8)) :
 Calls Tryz.prog 57 #[.pointer (some ⟨g,0,none⟩),.int .i64 n,.string b] w fun e w'=>e=.returned (.int .i64 3)/\w'=w:=by
 by_cases h0:n < 0
 . have h8:¬ 8<=n:=by omega
   clear hn
   go_enter Tryz.func57,Tryz.ntmps57
   go_wp2_with fail
   go_ret
   exact ⟨rfl,rfl⟩
 . have h8:8<=n:=by omega
   clear hn
   go_enter Tryz.func57,Tryz.ntmps57
   go_wp2_with fail
   go_ret
   exact ⟨rfl,rfl⟩
theorem rfeed_no (g n:Nat) (b:ByteArray) (r:RCells) (s:RSrc) (w:World) (h:RF w g r) (hs:r.src[n]?=some s) (ho:s.opened=false) :
 Calls Tryz.prog 57 #[.pointer (some ⟨g,0,none⟩),.int .i64 n,.string b] w fun e w'=>e=.returned (.int .i64 4)/\w'=w:=by
 have hn:n < 8:=by have:=(List.getElem?_eq_some_iff.1 hs).1;have:=h.len;omega
 have c0:w.cell? ⟨g,4+n*5,none⟩=some (.bool false):=h.cell (by rw [<- ho];exact r.srcAt n 0 s hs (by omega))
 clear h
 go_enter Tryz.func57,Tryz.ntmps57
 go_wp2_with fail
 go_ret
 exact ⟨rfl,rfl⟩
theorem rfeed_broken (g n:Nat) (b:ByteArray) (r:RCells) (s:RSrc) (w:World) (h:RF w g r) (hs:r.src[n]?=some s) (ho:s.opened=true) (hb:s.broken=true) :
 Calls Tryz.prog 57 #[.pointer (some ⟨g,0,none⟩),.int .i64 n,.string b] w fun e w'=>e=.returned (.int .i64 0)/\w'=w:=by
 have hn:n < 8:=by have:=(List.getElem?_eq_some_iff.1 hs).1;have:=h.len;omega
 have c0:w.cell? ⟨g,4+n*5,none⟩=some (.bool true):=h.cell (by rw [<- ho];exact r.srcAt n 0 s hs (by omega))
 have c1:w.cell? ⟨g,4+n*5+1,none⟩=some (.bool true):=h.cell (by rw [<- hb];exact r.srcAt n 1 s hs (by omega))
 clear h
 go_enter Tryz.func57,Tryz.ntmps57
 go_wp2_with fail
 go_ret
 exact ⟨rfl,rfl⟩
end Go.Proofs.YtcfngdnmpogaoaaGreat

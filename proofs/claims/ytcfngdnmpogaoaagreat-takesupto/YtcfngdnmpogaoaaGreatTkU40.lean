import Derived.Test.YtcfngdnmpogaoaaGreatTkU30
import Derived.StillTailTactics
import Derived.Test.YtcfngdnmpogaoaaGreatRows
import Derived.ProofKit
import Derived.SizedLaws
import Derived.OpenShut
import Derived.Deep.Slices
namespace Go.Proofs.YtcfngdnmpogaoaaGreat
open Go.RowKit
def keyA:ByteArray:=⟨#[97]⟩
def exS:List UInt8:=frameBytes 1 keyA 3 7 1
def exT:List UInt8:=frameBytes 1 keyA 12 (-2) 1
def exM:List UInt8:=frameBytes 2 ⟨#[]⟩ 22 0 0
theorem item_mark:isItemB 2 ⟨#[]⟩ 0 ((0:Nat):Int)=true:=by
 have h:(⟨#[]⟩:ByteArray).toList=[]:=by rw [ByteArray.toList_eq]
 simp [isItemB,h]
theorem exS_any (w:World):Calls Tryz.prog 31 #[.agg #[.int .i64 1,.string ⟨#[97]⟩,.int .i64 3,.int .i64 7,.int .u32 1]] w fun e w'=>e=.returned (.tuple #[.string (str exS),.int .i64 0])/\Below w.heap.size w w':=
 rframe_yes 1 keyA 3 7 1 w (by decide) (by decide) (by decide)
theorem exT_any (w:World):Calls Tryz.prog 31 #[.agg #[.int .i64 1,.string ⟨#[97]⟩,.int .i64 12,.int .i64 (-2),.int .u32 1]] w fun e w'=>e=.returned (.tuple #[.string (str exT),.int .i64 0])/\Below w.heap.size w w':=
 rframe_yes 1 keyA 12 (-2) 1 w (by decide) (by decide) (by decide)
theorem exM_any (w:World):Calls Tryz.prog 31 #[.agg #[.int .i64 2,.string ⟨#[]⟩,.int .i64 22,.int .i64 0,.int .u32 0]] w fun e w'=>e=.returned (.tuple #[.string (str exM),.int .i64 0])/\Below w.heap.size w w':=
 rframe_yes 2 ⟨#[]⟩ 22 0 0 w (by decide) item_mark (by decide)
theorem exS_len:(str exS).size=26:=by rw [str_size];decide
theorem exT_len:(str exT).size=26:=by rw [str_size];decide
theorem exM_len:(str exM).size=12:=by rw [str_size];decide
theorem wpList_build {P:Program} {w:World} {ops:Array Oper} {rest:List Oper} {o:Oper} {a:Act} {Q:Exit->Act->World->Prop} (t:TypeId) (len:Nat) (parts:Array (Nat × Operand))
 (ho:o.op=.buildSlice t len parts) (hgd:o.guard=none) {v':Value} {w':World}
 (hr:(Instr.buildSlice t len (parts.map fun (i,x)=>(i,a.eval x))).run P w=.ok v' w') (h:wpList P ops Q rest (a.put o.dst v') w'):wpList P ops Q (o :: rest) a w:=
 wpList_plain hgd fun _ hK=>by
  unfold Oper.wp execOp
  simp only [ho,Sem.run_bind,Sem.run_pure,hr,Result.andThen_ok]
  exact hK _ _ h
def opsCells:List OpD->List Value
 | []=>[]
 | o :: l=>o.cells.toList++opsCells l
theorem cells_len (o:OpD):o.cells.toList.length=13:=rfl
theorem opsCells_get (l:List OpD) (i j:Nat) (hi:i < l.length) (hj:j < 13):(opsCells l)[i*13+j]?=(l[i]).cells[j]?:=by
 induction l generalizing i with
 | nil=>simp at hi
 | cons o l ih=>
   have hl:=cells_len o
   cases i with
   | zero=>rw [opsCells,List.getElem?_append_left (by omega)];simp
   | succ i=>
     rw [opsCells,List.getElem?_append_right (by omega),hl,show (i+1)*13+j - 13=i*13+j from by omega]
     simpa using ih i (by simpa using hi)
def opZ (kind:Int):OpD:=⟨kind,0,0,⟨#[]⟩,0,⟨#[]⟩,0,0,0,0,0,0,0⟩
def exOps (S M1 M2:ByteArray):List OpD:=
 [⟨1,0,0,⟨#[]⟩,1,⟨#[97]⟩,3,7,1,0,0,0,0⟩,⟨1,0,0,⟨#[]⟩,1,⟨#[]⟩,0,0,0,0,0,0,0⟩,⟨2,0,0,S,0,⟨#[]⟩,0,0,0,0,0,0,0⟩,⟨3,0,0,⟨#[]⟩,0,⟨#[]⟩,0,0,0,10,5,2,2⟩,opZ 4,⟨4,0,9,⟨#[]⟩,0,⟨#[]⟩,0,0,0,0,0,0,0⟩,
  ⟨5,0,0,S,0,⟨#[]⟩,0,0,0,0,0,0,0⟩,opZ 7,opZ 9,⟨5,0,0,M1,0,⟨#[]⟩,0,0,0,0,0,0,0⟩,⟨5,0,0,M2,0,⟨#[]⟩,0,0,0,0,0,0,0⟩,opZ 7,opZ 8,opZ 9]
end Go.Proofs.YtcfngdnmpogaoaaGreat
namespace Go.Proofs.YtcfngdnmpogaoaaGreat
open Go.RowKit Go.ChangeShapes Go.WideShapes Go.ChangeAt
theorem cells3:Tryz.prog.cellsOf 3=1:=by kernel_rfl
theorem cells2:Tryz.prog.cellsOf 2=1:=by kernel_rfl
theorem cells9:Tryz.prog.cellsOf 9=1:=by kernel_rfl
theorem cells42:Tryz.prog.cellsOf 26=1:=by kernel_rfl
theorem cells44:Tryz.prog.cellsOf 28=5:=by kernel_rfl
theorem cells28:Tryz.prog.cellsOf 42=4:=by kernel_rfl
theorem cells48:Tryz.prog.cellsOf 79=13:=by kernel_rfl
theorem list5 {α:Type} {l:List α} (h:l.length=5):∃ a b c d e,l=[a,b,c,d,e]:=by
 match l,h with
 | [a,b,c,d,e],_=>exact ⟨a,b,c,d,e,rfl⟩
theorem list4 {α:Type} {l:List α} (h:l.length=4):∃ a b c d,l=[a,b,c,d]:=by
 match l,h with
 | [a,b,c,d],_=>exact ⟨a,b,c,d,rfl⟩
theorem list13 {α:Type} {l:List α} (h:l.length=13):∃ a b c d e f g i j k m n p,l=[a,b,c,d,e,f,g,i,j,k,m,n,p]:=by
 match l,h with
 | [a,b,c,d,e,f,g,i,j,k,m,n,p],_=>exact ⟨a,b,c,d,e,f,g,i,j,k,m,n,p,rfl⟩
section
variable {H:Type} {enc:TypeId × Value->H} {w:World} {base:Nat} {spare:Nat->Bool} {held:Bool}
theorem open_item {fuel:Nat} {cs:List Value} {x:DataW H × List MemPlace} (h:DataW.trod enc Tryz.prog w base spare held fuel 28 cs=some x) :
 ∃ (k:Int) (key:ByteArray) (t v:Int) (tag:Nat),cs=[.int .i64 k,.string key,.int .i64 t,.int .i64 v,.int .u32 (tag:Int)]/\key.size<=maxLen/\tag < 4294967296:=by
 obtain ⟨xs,n,_,rfl,hl,hlen,hf⟩:=DataW.trod_struct Tryz.underlying28 h
 rw [cells44] at hl
 obtain ⟨a,b,c,d,e,rfl⟩:=list5 hl
 have e0:=hf 0 ⟨ "Kind",3,0,false,"","",0⟩ rfl
 have e1:=hf 1 ⟨ "Key",9,1,false,"","",8⟩ rfl
 have e2:=hf 2 ⟨ "Time",2,2,false,"","",24⟩ rfl
 have e3:=hf 3 ⟨ "Value",2,3,false,"","",32⟩ rfl
 have e4:=hf 4 ⟨ "Tag",26,4,false,"","",40⟩ rfl
 simp only [cells3,cells9,cells2,cells42,List.drop_zero,List.drop_succ_cons,List.take_succ_cons,List.take_zero] at e0 e1 e2 e3 e4
 obtain ⟨y0,y1,y2,y3,y4,rfl⟩:=list5 (l:=xs) (by rw [hlen];rfl)
 try simp only [List.getElem?_cons_zero,List.getElem?_cons_succ] at e0 e1 e2 e3 e4
 obtain ⟨k,hk,_,_⟩:=DataW.trod_int Tryz.underlying3 e0
 obtain ⟨key,hkey,_,hks⟩:=DataW.trod_string Tryz.underlying9 e1
 obtain ⟨t,ht,_,_⟩:=DataW.trod_int Tryz.underlying2 e2
 obtain ⟨v,hv,_,_⟩:=DataW.trod_int Tryz.underlying2 e3
 obtain ⟨tag,htag,_,hwf⟩:=DataW.trod_int Tryz.underlying26 e4
 have hb:=bounds_u32 hwf
 obtain ⟨tg,rfl⟩:=Int.eq_ofNat_of_zero_le hb.1
 simp only [List.cons.injEq,and_true] at hk hkey ht hv htag
 subst hk hkey ht hv htag
 exact ⟨k,key,t,v,tg,rfl,hks,by omega⟩
theorem open_config {fuel:Nat} {cs:List Value} {x:DataW H × List MemPlace} (h:DataW.trod enc Tryz.prog w base spare held fuel 42 cs=some x) :
 ∃ (a b c d:Int),cs=[.int .i64 a,.int .i64 b,.int .i64 c,.int .i64 d]:=by
 obtain ⟨xs,n,_,rfl,hl,hlen,hf⟩:=DataW.trod_struct Tryz.underlying42 h
 rw [cells28] at hl
 obtain ⟨a,b,c,d,rfl⟩:=list4 hl
 have e0:=hf 0 ⟨ "Size",2,0,false,"","",0⟩ rfl
 have e1:=hf 1 ⟨ "Slide",2,1,false,"","",8⟩ rfl
 have e2:=hf 2 ⟨ "Late",2,2,false,"","",16⟩ rfl
 have e3:=hf 3 ⟨ "Keys",3,3,false,"","",24⟩ rfl
 simp only [cells3,cells2,List.drop_zero,List.drop_succ_cons,List.take_succ_cons,List.take_zero] at e0 e1 e2 e3
 obtain ⟨y0,y1,y2,y3,rfl⟩:=list4 (l:=xs) (by rw [hlen];rfl)
 try simp only [List.getElem?_cons_zero,List.getElem?_cons_succ] at e0 e1 e2 e3
 obtain ⟨k0,hk0,_,_⟩:=DataW.trod_int Tryz.underlying2 e0
 obtain ⟨k1,hk1,_,_⟩:=DataW.trod_int Tryz.underlying2 e1
 obtain ⟨k2,hk2,_,_⟩:=DataW.trod_int Tryz.underlying2 e2
 obtain ⟨k3,hk3,_,_⟩:=DataW.trod_int Tryz.underlying3 e3
 simp only [List.cons.injEq,and_true] at hk0 hk1 hk2 hk3
 subst hk0 hk1 hk2 hk3
 exact ⟨k0,k1,k2,k3,rfl⟩
end
end Go.Proofs.YtcfngdnmpogaoaaGreat

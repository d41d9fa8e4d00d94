import Derived.Test.YtcfngdnmpogaoaaGreatTkT05
import Derived.Deep.RegionHeld3
import Derived.Test.YtcfngdnmpogaoaaGreatTkT03
import Derived.Test.YtcfngdnmpogaoaaGreatTkT01
namespace Go.Proofs.YtcfngdnmpogaoaaGreat
open Go.RowKit
set_option maxHeartbeats 3200000
set_option maxRecDepth 20000
theorem runframe_good (s:ByteArray) (w:World) (h0:0 < s.size) (hl:s.size <= 9223372036854775807) (hs:(s.data.toList.getD 0 0).toNat + 3 <= s.size) (hc:unfCrc s.data.toList = true) (hne:unfBody s.data.toList ≠ []) :
 Calls Tryz.prog 78 #[.string s] w fun e w'=>
  (itemOfB (unfBody s.data.toList) = true -> e = .returned (.tuple #[itemOfV (unfBody s.data.toList),.int .i64 ((s.data.toList.getD 0 0).toNat + 3:Nat),.int .i64 0])) /\
  (itemOfB (unfBody s.data.toList) = false -> e = .returned (.tuple #[itemNone,.int .i64 0,.int .i64 2])) /\ Below w.heap.size w w':=by
 have hg:=getD_str s 0 h0
 have hk:=(s.data.toList.getD 0 0).toNat_lt
 have hE:s.extract 1 ((s.data.toList.getD 0 0).toNat + 1) = str (unfBody s.data.toList):=extract_str _ _ _
 have hC:=crc_lt (unfBody s.data.toList)
 have hbl:(unfBody s.data.toList).length = (s.data.toList.getD 0 0).toNat:=by rw [unfBody,List.length_take,List.length_drop,keyLen];omega
 have hq:Hid (∀ W:World,Calls Tryz.prog 113 #[.string s,.int .i64 ((s.data.toList.getD 0 0).toNat + 1:Int),.int .i64 2] W fun e w'=>e = .returned (.int .u64 (numb ((s.data.toList.drop (1 + (s.data.toList.getD 0 0).toNat)).take 2):Nat)) /\ w' = W):=fun W=>by
  have:=number_any s (1 + (s.data.toList.getD 0 0).toNat) 2 W hl (by omega) (by omega)
  rw [show ((1 + (s.data.toList.getD 0 0).toNat:Nat):Int) = ((s.data.toList.getD 0 0).toNat:Int) + 1 from by omega] at this
  exact this
 have HK:Hid (unfCrc s.data.toList = decide (numb ((s.data.toList.drop (1 + (s.data.toList.getD 0 0).toNat)).take 2) = crc (unfBody s.data.toList))):=rfl
 have hrc:=rcheck_any (str (unfBody s.data.toList))
 rw [str_data,str_size] at hrc
 have Hrc:Hid _:=hrc
 clear hrc
 generalize s.data.toList.getD 0 0 = x0 at *
 generalize unfCrc s.data.toList = cr at *
 generalize numb ((s.data.toList.drop (1 + x0.toNat)).take 2) = X at *
 generalize unfBody s.data.toList = body at *
 have hz:((s.size:Int) == 0) = false:=beq_eq_false_iff_ne.2 (by omega)
 have hd:decide ((s.size:Int) < (x0.toNat:Int) + 3) = false:=by simp;omega
 have HC:=hid hc
 clear hc
 go_enter Tryz.func78,Tryz.ntmps78
 go_wp2_with fail
 refine (Hrc.out _ (by omega)).mono ?_
 rintro e w1 ⟨rfl,rfl⟩
 generalize crc body = C at *
 have hwC:IntKind.u64.wrap (C:Int) = C:=by rw [IntKind.wrap_u64];omega
 go_wp2_with fail
 refine (hq.out _).mono ?_
 rintro e w1 ⟨rfl,rfl⟩
 have hx:X = C:=by have:=HC.out;rw [HK.out] at this;exact of_decide_eq_true this
 have hxb:((C:Int) != (X:Int)) = false:=by simp [hx]
 have hkp:0 < body.length:=by cases body with | nil=>exact absurd rfl hne | cons _ _=>simp
 have hk0':((x0.toNat:Int) == 0) = false:=beq_eq_false_iff_ne.2 (by omega)
 clear hx HK HC hne hq Hrc hE hg
 have hsb:(str body).size = x0.toNat:=by rw [str_size,hbl]
 obtain ⟨y0,Hy0⟩:∃ y,Hid (body.getD 0 0 = y):=⟨_,rfl⟩
 have hb0:∀ h,(str body)[0]'h = y0:=fun h=>by rw [getD_str _ _ h,str_data];exact Hy0.out
 have hy0:=y0.toNat_lt
 have Hbl:=hid hbl
 have hx0p:0 < x0.toNat:=by omega
 clear hbl hkp
 have HW:Hid (∀ o o':Obj,Below w.heap.size w ((w.alloc o).alloc o')):=fun o o'=>two_box w o o'
 by_cases h2:y0 = 2
 . have e2:((y0.toNat:Int) == 2) = true:=by rw [h2];rfl
   have e1:((y0.toNat:Int) != 1) = true:=by rw [h2];rfl
   have H2:Hid (body.getD 0 0 = 2):=by show _ = _;rw [Hy0.out,h2]
   clear h2
   by_cases h9:x0.toNat = 9
   . have HI:Hid (itemOfB body = true):=by show _ = _;rw [itemOfB,H2.out];simp [Hbl.out,h9]
     have HV:Hid (itemOfV body = markVal body):=by show _ = _;rw [itemOfV,HI.out,H2.out];rfl
     have HM:Hid (markVal body = .agg #[.int .i64 2,.string ⟨#[]⟩,.int .i64 (toI (numb (body.drop 1))),.int .i64 0,.int .u32 0]):=rfl
     have Hn:Hid (∀ W:World,Calls Tryz.prog 113 #[.string (str body),.int .i64 1,.int .i64 8] W fun e w'=>e = .returned (.int .u64 (numb (body.drop 1):Nat)) /\ w' = W):=fun W=>by
      have hn:=number_any (str body) 1 8 W (by omega) (by omega) (by omega)
      rw [str_data,List.take_of_length_le (by simp [Hbl.out,h9])] at hn
      exact hn
     have hw:IntKind.i64.wrap (numb (body.drop 1):Nat) = toI (numb (body.drop 1)):=IntWalk.i64_left _
     have hw':wrap64 (numb (body.drop 1):Nat) = toI (numb (body.drop 1)):=rfl
     generalize toI (numb (body.drop 1)) = T at *
     generalize numb (body.drop 1) = A at *
     have e9:((x0.toNat:Int) == 9) = true:=by simp [h9]
     have H9:=hid h9
     clear h9
     go_wp2_with fail
     refine (Hn.out _).mono ?_
     rintro e w1 ⟨rfl,rfl⟩
     go_wp2
     refine bodyPost_ret (v:=.tuple #[.agg #[.int .i64 2,.string ⟨#[]⟩,.int .i64 T,.int .i64 0,.int .u32 0],.int .i64 ((x0.toNat:Int) + 3),.int .i64 0]) (by simp [results,Tryz.results78,go_sem]) rfl ⟨fun _=>by rw [HV.out,HM.out];rfl,fun h=>?_,HW.out _ _⟩
     rw [HI.out] at h;cases h
   . have HI:Hid (itemOfB body = false):=by show _ = _;rw [itemOfB,H2.out];simp [Hbl.out,h9]
     have e9:((x0.toNat:Int) == 9) = false:=beq_eq_false_iff_ne.2 (by omega)
     clear h9
     go_wp2
     refine bodyPost_ret (v:=.tuple #[itemNone,.int .i64 0,.int .i64 2]) (by simp [results,Tryz.results78,go_sem,itemNone]) rfl ⟨fun h=>?_,fun _=>rfl,HW.out _ _⟩
     rw [HI.out] at h;cases h
 . by_cases h1:y0 = 1
   . have e2:((y0.toNat:Int) == 2) = false:=by rw [h1];rfl
     have e1:((y0.toNat:Int) != 1) = false:=by rw [h1];rfl
     have H1:Hid (body.getD 0 0 = 1):=by show _ = _;rw [Hy0.out,h1]
     clear h1 h2
     obtain ⟨y1,Hy1⟩:∃ y,Hid (body.getD 1 0 = y):=⟨_,rfl⟩
     have hb1:∀ h,(str body)[1]'h = y1:=fun h=>by rw [getD_str _ _ h,str_data];exact Hy1.out
     have hy1:=y1.toNat_lt
     have HB:Hid (itemOfB body = isEvent body):=by show _ = _;rw [itemOfB,H1.out];rfl
     have HE:Hid (isEvent body = decide (2 <= x0.toNat /\ 1 <= y1.toNat /\ y1.toNat <= 8 /\ x0.toNat = 22 + y1.toNat)):=by
      show _ = _
      rw [isEvent,Hy1.out,Hbl.out]
      simp
     by_cases h23:x0.toNat < 23
     . have HI:Hid (itemOfB body = false):=by show _ = _;rw [HB.out,HE.out];exact decide_eq_false (by omega)
       have d23:decide ((x0.toNat:Int) < 23) = true:=by simp;omega
       clear h23
       go_wp2
       refine bodyPost_ret (v:=.tuple #[itemNone,.int .i64 0,.int .i64 2]) (by simp [results,Tryz.results78,go_sem,itemNone]) rfl ⟨fun h=>?_,fun _=>rfl,HW.out _ _⟩
       rw [HI.out] at h;cases h
     . have d23:decide ((x0.toNat:Int) < 23) = false:=by simp;omega
       by_cases h30:30 < x0.toNat
       . have HI:Hid (itemOfB body = false):=by show _ = _;rw [HB.out,HE.out];exact decide_eq_false (by omega)
         have d30:decide (30 < (x0.toNat:Int)) = true:=by simp;omega
         clear h23 h30
         go_wp2
         refine bodyPost_ret (v:=.tuple #[itemNone,.int .i64 0,.int .i64 2]) (by simp [results,Tryz.results78,go_sem,itemNone]) rfl ⟨fun h=>?_,fun _=>rfl,HW.out _ _⟩
         rw [HI.out] at h;cases h
       . have d30:decide (30 < (x0.toNat:Int)) = false:=by simp;omega
         have hx1p:1 < x0.toNat:=by omega
         by_cases hk22:x0.toNat = 22 + y1.toNat
         . have HI:Hid (itemOfB body = true):=by show _ = _;rw [HB.out,HE.out];exact decide_eq_true (by omega)
           have dk:((y1.toNat:Int) != (x0.toNat:Int) - 22) = false:=by simp;omega
           have H22:=hid hk22
           have g1:y1.toNat + 22 <= x0.toNat:=by omega
           have g2:x0.toNat <= y1.toNat + 22:=by omega
           clear hk22
           go_wp2_with fail
           clear hb0 hb1 hxb hwC hz hd d23 d30 dk e1 e2 hk0'
           have i1:(0:Int) <= 2 + (y1.toNat:Int):=by omega
           have i2:(2:Int) + (y1.toNat:Int) <= (x0.toNat:Int):=by omega
           have i3:(2:Int) <= 2 + (y1.toNat:Int):=by omega
           have hX:(str body).extract 2 ((2:Int) + (y1.toNat:Int)).toNat = str ((body.drop 2).take y1.toNat):=by
            rw [extract_str,str_data,show ((2:Int) + (y1.toNat:Int)).toNat - 2 = y1.toNat from by omega]
           have Hq:Hid (∀ (z n:Int) (W:World),0 <= z -> 0 <= n -> n <= 8 -> z + n <= x0.toNat -> Calls Tryz.prog 113 #[.string (str body),.int .i64 z,.int .i64 n] W fun e w'=>e = .returned (.int .u64 (numb ((body.drop z.toNat).take n.toNat):Nat)) /\ w' = W):=fun z n W h1 h2 h3 h4=>by
            obtain ⟨z,rfl⟩:=Int.eq_ofNat_of_zero_le h1
            obtain ⟨n,rfl⟩:=Int.eq_ofNat_of_zero_le h2
            have:=number_any (str body) z n W (by omega) (by omega) (by omega)
            rw [str_data] at this
            exact this
           have p1:numb ((body.drop ((2:Int) + (y1.toNat:Int)).toNat).take (8:Int).toNat) = numb ((body.drop (2 + y1.toNat)).take 8):=by rw [show ((2:Int) + (y1.toNat:Int)).toNat = 2 + y1.toNat from by omega];rfl
           have p2:numb ((body.drop ((2:Int) + (y1.toNat:Int) + 8).toNat).take (8:Int).toNat) = numb ((body.drop (10 + y1.toNat)).take 8):=by rw [show ((2:Int) + (y1.toNat:Int) + 8).toNat = 10 + y1.toNat from by omega];rfl
           have p3:numb ((body.drop ((2:Int) + (y1.toNat:Int) + 16).toNat).take (4:Int).toNat) = numb ((body.drop (18 + y1.toNat)).take 4):=by rw [show ((2:Int) + (y1.toNat:Int) + 16).toNat = 18 + y1.toNat from by omega];rfl
           have HV:Hid (itemOfV body = .agg #[.int .i64 1,.string (str ((body.drop 2).take y1.toNat)),.int .i64 (toI (numb ((body.drop (2 + y1.toNat)).take 8))),.int .i64 (toI (numb ((body.drop (10 + y1.toNat)).take 8))),.int .u32 (numb ((body.drop (18 + y1.toNat)).take 4):Nat)]):=by
            show itemOfV body = _
            rw [itemOfV,HI.out,H1.out,Hy1.out,List.take_of_length_le (l:=body.drop (18 + y1.toNat)) (by rw [List.length_drop,Hbl.out];omega)]
            rfl
           have hA3:numb ((body.drop (18 + y1.toNat)).take 4) < 4294967296:=by
            have h:=numb_lt ((body.drop (18 + y1.toNat)).take 4)
            have h2:256 ^ ((body.drop (18 + y1.toNat)).take 4).length <= 256 ^ 4:=Nat.pow_le_pow_right (by decide) (by rw [List.length_take];omega)
            omega
           generalize numb ((body.drop (2 + y1.toNat)).take 8) = A1 at p1 HV
           generalize numb ((body.drop (10 + y1.toNat)).take 8) = A2 at p2 HV
           generalize numb ((body.drop (18 + y1.toNat)).take 4) = A3 at p3 HV hA3
           generalize str ((body.drop 2).take y1.toNat) = S at *
           have hw3:IntKind.u32.wrap (A3:Int) = A3:=by rw [IntKind.wrap_u32];omega
           have hw1:IntKind.i64.wrap (A1:Int) = toI A1:=IntWalk.i64_left _
           have hw2:IntKind.i64.wrap (A2:Int) = toI A2:=IntWalk.i64_left _
           generalize toI A1 = T1 at *
           generalize toI A2 = T2 at *
           have hv8:IntKind.i64.wrap (2 + (y1.toNat:Int) + 8) = 2 + (y1.toNat:Int) + 8:=by rw [IntKind.wrap_i64];omega
           have hv16:IntKind.i64.wrap (2 + (y1.toNat:Int) + 16) = 2 + (y1.toNat:Int) + 16:=by rw [IntKind.wrap_i64];omega
           have hv3:IntKind.i64.wrap ((x0.toNat:Int) + 3) = (x0.toNat:Int) + 3:=by rw [IntKind.wrap_i64];omega
           have P1:Hid _:=p1
           have P2:Hid _:=p2
           have P3:Hid _:=p3
           clear p1 p2 p3 hA3 hl hs h0 hk hC HB HE
           go_region_held3 (fun _=>True) (trivial) (first | (go_at_call 113;refine (Hq.out _ _ _ ?_ ?_ ?_ ?_).mono ?_;omega;omega;omega;omega;rintro e w' ⟨rfl,rfl⟩;(first | rw [P1.out] | rw [P2.out] | rw [P3.out])))
           go_wp2
           refine bodyPost_ret (v:=.tuple #[.agg #[.int .i64 1,.string S,.int .i64 T1,.int .i64 T2,.int .u32 (A3:Nat)],.int .i64 ((x0.toNat:Int) + 3),.int .i64 0]) (by simp [results,Tryz.results78,go_sem]) rfl ⟨fun _=>by rw [HV.out];rfl,fun h=>?_,(HW.out _ _).drew⟩
           rw [HI.out] at h;cases h
         . have HI:Hid (itemOfB body = false):=by show _ = _;rw [HB.out,HE.out];exact decide_eq_false (by omega)
           have dk:((y1.toNat:Int) != (x0.toNat:Int) - 22) = true:=by simp;omega
           clear h23 h30 hk22
           go_wp2
           refine bodyPost_ret (v:=.tuple #[itemNone,.int .i64 0,.int .i64 2]) (by simp [results,Tryz.results78,go_sem,itemNone]) rfl ⟨fun h=>?_,fun _=>rfl,HW.out _ _⟩
           rw [HI.out] at h;cases h
   . have e2:((y0.toNat:Int) == 2) = false:=by rw [show (2:Int) = ((2:Nat):Int) from rfl,toNat_eq _ 2 (by omega)];exact decide_eq_false h2
     have e1:((y0.toNat:Int) != 1) = true:=by
      rw [bne,show (1:Int) = ((1:Nat):Int) from rfl,toNat_eq _ 1 (by omega)];simpa using h1
     have HI:Hid (itemOfB body = false):=by show _ = _;rw [itemOfB,Hy0.out,if_neg h1,if_neg h2]
     clear h1 h2
     go_wp2
     refine bodyPost_ret (v:=.tuple #[itemNone,.int .i64 0,.int .i64 2]) (by simp [results,Tryz.results78,go_sem,itemNone]) rfl ⟨fun h=>?_,fun _=>rfl,HW.out _ _⟩
     rw [HI.out] at h;cases h
end Go.Proofs.YtcfngdnmpogaoaaGreat
namespace Go.Proofs.YtcfngdnmpogaoaaGreat
open Go.RowKit
def unfV (l:List UInt8):Value:=if unfShort l then itemNone else if unfOk l then itemOfV (unfBody l) else itemNone
def unfN (l:List UInt8):Int:=if unfShort l then 0 else if unfOk l then (((l.getD 0 0).toNat + 3:Nat):Int) else 0
def unfE (l:List UInt8):Int:=if unfShort l then 0 else if unfOk l then 0 else 2
theorem itemOfV_cells (body:List UInt8):itemCells (itemOfV body):=by
 unfold itemOfV
 split
 . split
   . exact eventVal_cells _ _
   . exact markVal_cells _
 . exact itemNone_cells
theorem unfV_cells (l:List UInt8):itemCells (unfV l):=by
 unfold unfV
 split
 . exact itemNone_cells
 . split
   . exact itemOfV_cells _
   . exact itemNone_cells
theorem unframe_any (b off cap:Nat) (l:List UInt8) (w:World) (hc:Bytes w b off l) (hl:l.length <= 9223372036854775807) (hcap:l.length <= cap) :
 Calls Tryz.prog 16 #[.slice (some ⟨b,off,none⟩) l.length cap] w fun e w'=>e = .returned (.tuple #[unfV l,.int .i64 (unfN l),.int .i64 (unfE l)]) /\ Below w.heap.size w w':=by
 by_cases h0:0 < l.length
 . by_cases hs:l.length < (l.getD 0 0).toNat + 3
   . have hsh:unfShort l = true:=decide_eq_true hs
     have e1:unfV l = itemNone:=by rw [unfV,hsh];rfl
     have e2:unfN l = 0:=by rw [unfN,hsh];rfl
     have e3:unfE l = 0:=by rw [unfE,hsh];rfl
     rw [e1,e2,e3]
     exact unframe_short b off cap l w hc h0 hl hs
   . have hsh:unfShort l = false:=decide_eq_false hs
     refine (unframe_long b off cap l w hc h0 hl hcap (by omega)).mono ?_
     rintro e w' ⟨h1,h2,hb⟩
     refine ⟨?_,hb⟩
     cases hok:unfOk l with
     | true=>
       have e1:unfV l = itemOfV (unfBody l):=by rw [unfV,hsh,hok];rfl
       have e2:unfN l = (((l.getD 0 0).toNat + 3:Nat):Int):=by rw [unfN,hsh,hok];rfl
       have e3:unfE l = 0:=by rw [unfE,hsh,hok];rfl
       rw [e1,e2,e3];exact (h1 hok).2
     | false=>
       have e1:unfV l = itemNone:=by rw [unfV,hsh,hok];rfl
       have e2:unfN l = 0:=by rw [unfN,hsh,hok];rfl
       have e3:unfE l = 2:=by rw [unfE,hsh,hok];rfl
       rw [e1,e2,e3];exact h2 hok
 . have hl0:l = []:=List.eq_nil_of_length_eq_zero (by omega)
   subst hl0
   exact unframe_empty _ cap w
theorem runframe_any (s:ByteArray) (w:World) (hl:s.size <= 9223372036854775807) :
 Calls Tryz.prog 78 #[.string s] w fun e w'=>e = .returned (.tuple #[unfV s.data.toList,.int .i64 (unfN s.data.toList),.int .i64 (unfE s.data.toList)]) /\ Below w.heap.size w w':=by
 have hkl:=keyLen s
 by_cases h0:0 < s.size
 . by_cases hs:s.size < (s.data.toList.getD 0 0).toNat + 3
   . have hsh:unfShort s.data.toList = true:=decide_eq_true (by omega)
     have e1:unfV s.data.toList = itemNone:=by rw [unfV,hsh];rfl
     have e2:unfN s.data.toList = 0:=by rw [unfN,hsh];rfl
     have e3:unfE s.data.toList = 0:=by rw [unfE,hsh];rfl
     rw [e1,e2,e3]
     exact runframe_short s w h0 hl hs
   . have hsh:unfShort s.data.toList = false:=decide_eq_false (by omega)
     have hbad:unfOk s.data.toList = false -> unfV s.data.toList = itemNone /\ unfN s.data.toList = 0 /\ unfE s.data.toList = 2:=fun hok=>
      ⟨by rw [unfV,hsh,hok];rfl,by rw [unfN,hsh,hok];rfl,by rw [unfE,hsh,hok];rfl⟩
     cases hcr:unfCrc s.data.toList with
     | false=>
       obtain ⟨e1,e2,e3⟩:=hbad (by rw [unfOk,hcr];rfl)
       rw [e1,e2,e3]
       exact runframe_crc s w h0 hl (by omega) (.inl hcr)
     | true=>
       by_cases hne:unfBody s.data.toList = []
       . obtain ⟨e1,e2,e3⟩:=hbad (by rw [unfOk,hcr,hne];rfl)
         rw [e1,e2,e3]
         exact runframe_crc s w h0 hl (by omega) (.inr hne)
       . refine (runframe_good s w h0 hl (by omega) hcr hne).mono ?_
         rintro e w' ⟨h1,h2,hb⟩
         refine ⟨?_,hb⟩
         cases hib:itemOfB (unfBody s.data.toList) with
         | true=>
           have hok:unfOk s.data.toList = true:=by rw [unfOk,hcr,hib];rfl
           have e1:unfV s.data.toList = itemOfV (unfBody s.data.toList):=by rw [unfV,hsh,hok];rfl
           have e2:unfN s.data.toList = (((s.data.toList.getD 0 0).toNat + 3:Nat):Int):=by rw [unfN,hsh,hok];rfl
           have e3:unfE s.data.toList = 0:=by rw [unfE,hsh,hok];rfl
           rw [e1,e2,e3];exact h1 hib
         | false=>
           obtain ⟨e1,e2,e3⟩:=hbad (by rw [unfOk,hcr,hib];rfl)
           rw [e1,e2,e3];exact h2 hib
 . have hl0:s.data.toList = []:=List.eq_nil_of_length_eq_zero (by omega)
   rw [hl0]
   exact runframe_empty s w (by omega)
end Go.Proofs.YtcfngdnmpogaoaaGreat
namespace Go.Proofs.YtcfngdnmpogaoaaGreat
open Go.RowKit
end Go.Proofs.YtcfngdnmpogaoaaGreat
namespace Go.Proofs.YtcfngdnmpogaoaaGreat
open Go.RowKit
structure SCells.Fits (r:SCells):Prop where
 src:∀ s ∈ r.src,-2305843009213693952 <= s.time /\ s.time <= 2305843009213693952
 late:0 <= r.late /\ r.late <= 1099511627776
theorem leastF_fits (l:List SSrc) (h:∀ s ∈ l,-2305843009213693952 <= s.time /\ s.time <= 2305843009213693952):-2305843009213693952 <= (leastF l).1 /\ (leastF l).1 <= 2305843009213693952:=by
 unfold leastF
 have key:∀ (l:List SSrc) (m:Int × Bool),(∀ s ∈ l,-2305843009213693952 <= s.time /\ s.time <= 2305843009213693952) -> (-2305843009213693952 <= m.1 /\ m.1 <= 2305843009213693952) -> -2305843009213693952 <= (l.foldl leastStep m).1 /\ (l.foldl leastStep m).1 <= 2305843009213693952:=by
  intro l
  induction l with
  | nil=>intro m _ hm;exact hm
  | cons s l ih=>
    intro m hl hm
    refine ih _ (fun x hx=>hl x (List.mem_cons_of_mem _ hx)) ?_
    unfold leastStep
    split
    . exact hl s List.mem_cons_self
    . exact hm
 exact key l _ h (by simp)
theorem SCells.Fits.wrap {r:SCells} (h:r.Fits):IntKind.i64.wrap ((leastF r.src).1 - r.late) = (leastF r.src).1 - r.late:=by
 have:=leastF_fits r.src h.src
 have:=h.late
 rw [IntKind.wrap_i64];omega
theorem SCells.moved_src (r:SCells):r.moved.src = r.src:=by unfold SCells.moved;(repeat' split) <;> rfl
theorem SCells.moved_late (r:SCells):r.moved.late = r.late:=by unfold SCells.moved;(repeat' split) <;> rfl
theorem SCells.moved_going (r:SCells):r.moved.going = r.going:=by unfold SCells.moved;(repeat' split) <;> rfl
theorem SCells.moved_lk (r:SCells):r.moved.lk = r.lk:=by unfold SCells.moved;(repeat' split) <;> rfl
theorem SCells.moved_n (r:SCells):r.moved.n = r.n:=by unfold SCells.moved;(repeat' split) <;> rfl
def clampT (t:Int):Int:=if 2305843009213693952 < if t < -2305843009213693952 then -2305843009213693952 else t then 2305843009213693952 else if t < -2305843009213693952 then -2305843009213693952 else t
def SSrc.raised (s:SSrc) (x:Int):SSrc:=if s.is = false \/ s.time < x then ⟨s.opened,s.broken,s.unread,x,true⟩ else s
def SCells.addMark (r:SCells):SCells:={ r with n:={ r.n with marks:=wrap64 (r.n.marks + 1) } }
def SCells.addBroken (r:SCells):SCells:={ r with n:={ r.n with broken:=wrap64 (r.n.broken + 1) } }
theorem clampT_fits (t:Int):-2305843009213693952 <= clampT t /\ clampT t <= 2305843009213693952:=by unfold clampT;(repeat' split) <;> omega
end Go.Proofs.YtcfngdnmpogaoaaGreat
/- Appends of nothing, and of fresh zeros to a nil slice. Nothing here speaks of one program. -/
namespace Go.Proofs.YtcfngdnmpogaoaaGreat
open Go.RowKit

section
variable {P : Program} (w : World)

theorem run_append_none (t tx ty e : TypeId) (i : TypeInfo) (ht : P.underlying t = some (.slice e)) (hi : P.info? e = some i) (base : Option Addr) (n cap : Nat) (hn : n ≤ cap) (x : Value) (hs : Src P i.size tx x 0 [] w) :
 (Builtin.append_ #[t, tx] ty #[.slice base n cap, x]).run P w = .ok (.slice base n cap) w := by
 rcases hs.kind with ⟨e', hk⟩ | hk <;> cases base <;> simp [Builtin.append_, run_underlying ht, run_underlying hk, sizeOf, typeInfo, hi, hs.len, hn, hs.cells, storeCells]

theorem run_append_make (t tx ty e : TypeId) (i : TypeInfo) (z : Value) (ht : P.underlying t = some (.slice e)) (htx : P.underlying tx = some (.int .i64)) (hi : P.info? e = some i) (hz : i.zero = some z)
 (_hzs : z.cells.size = i.size) (hsz : 0 < i.size) (n : Nat) (hn : 0 < n) (hm : n ≤ maxLen) (hb : n * i.bytes ≤ 140737488355328) :
 (Builtin.append_ #[t, tx] ty #[.slice none 0 0, .int .i64 n]).run P w =
  .ok (.slice (some ⟨w.heap.size, 0, none⟩) n (grownCap w n 0 e)) (w.drew.alloc (.cells (Builtin.zeroCells z.cells n ++ Builtin.zeroCells z.cells (grownCap w n 0 e - n)) e)) := by
 have hm' := hm
 simp only [maxLen] at hm'
 have hwr : IntKind.i64.wrap (n : Int) = n := by rw [IntKind.wrap_i64]; omega
 have h0 : ¬ ((n : Int) < 0) := by omega
 have h63' : ¬ (9223372036854775807 < (n : Int)) := by omega
 have hfit : Builtin.nextslicecap (0 + n) 0 * i.bytes ≤ 281474976710656 := growslice_fits (by omega) (by simpa using hb)
 rw [Nat.zero_add] at hfit
 have h48' : ¬ (281474976710656 < Builtin.nextslicecap n 0 * i.bytes) := by omega
 have hbi : ¬ (281474976710656 < (n : Int) * i.bytes) := by have : (n : Int) * i.bytes = ((n * i.bytes : Nat) : Int) := by simp
                                                            omega
 have hne : ¬ (n = 0) := by omega
 simp [Builtin.append_, run_underlying ht, run_underlying htx, sizeOf, typeInfo, zeroValue, hi, hz, h0, hwr, h63', h48', hbi, hne, Question.forced, newRow, grownCap, Builtin.firstCells, asInt, asIntOf]
 intro hh
 exact absurd hh (by have := Nat.mul_pos hn hsz; omega)

theorem wpList_append_make {ops : Array Oper} {rest : List Oper} {o : Oper} {a : Act} {Q : Exit → Act → World → Prop} (hgd : o.guard = none) (s x : Operand) (t tx : TypeId)
 (ho : o.op = .call { callee := .builtin .append, args := #[s, x], argTypes := #[t, tx] })
 (e : TypeId) (i : TypeInfo) (z : Value) (sz bytes : Nat) (ht : P.underlying t = some (.slice e)) (htx : P.underlying tx = some (.int .i64)) (hi : P.info? e = some i) (hz : i.zero = some z)
 (hsize : i.size = sz) (hby : i.bytes = bytes) (hzs : z.cells.size = sz) (hsz : 0 < sz)
 (n : Nat) (hev : a.eval s = .slice none 0 0) (hx : a.eval x = .int .i64 n) (hn : 0 < n) (hm : n ≤ maxLen) (hb : n * bytes ≤ 140737488355328)
 (h : ∀ cap w', n ≤ cap → (∀ k, k < w.heap.size → w'.heap[k]? = w.heap[k]?) → Below w.heap.size w w' → w.heap.size < w'.heap.size → Row w' e sz (.slice (some ⟨w.heap.size, 0, none⟩) 0 cap) [] → wpList P ops Q rest (a.put o.dst (.slice (some ⟨w.heap.size, 0, none⟩) n cap)) w') : wpList P ops Q (o :: rest) a w :=
 wpList_plain hgd fun _ hK => by
  subst hsize
  subst hby
  have hr := run_append_make (P := P) w t tx o.type e i z ht htx hi hz hzs hsz n hn hm hb
  have hge := grownCap_ge w n 0 e
  have hcm := grownCap_le_maxLen w n 0 e hm
  unfold Oper.wp execOp
  simp only [ho, resolve, invoke, builtin, Sem.run_bind, Sem.run_pure, Result.andThen_ok, List.map_toArray, List.map_cons, List.map_nil, hev, hx, hr]
  refine hK _ _ (h _ _ hge (fun k hk => Below.heap_alloc w.drew _ k hk) (((Below.refl _ w).drew).alloc (by simp) _) (by simp) (.inr ⟨w.heap.size, 0, 0, _, _, rfl, heap_alloc_new w.drew _, Nat.zero_le _, hcm, ?_, by simp, fun j hj => by simp at hj⟩))
  simp only [Array.size_append, size_zeroCells, hzs, ← Nat.add_mul, Nat.zero_add]
  exact Nat.le_of_eq (by congr 1; omega)

/-- append, of nothing too. -/
theorem append_row_any (t tx ty e : TypeId) (i : TypeInfo) (z : Value) (sz bytes : Nat) (ht : P.underlying t = some (.slice e)) (hi : P.info? e = some i) (hz : i.zero = some z)
 (hsize : i.size = sz) (hby : i.bytes = bytes) (hzs : z.cells.size = sz) (hsz : 0 < sz)
 (v : Value) (xs : List Value) (hrow : Row w e sz v xs) (x : Value) (m : Nat) (news : List Value) (hs : Src P sz tx x m news w)
 (h63 : xs.length + m ≤ maxLen) (hbytes : (xs.length + m * sz) * bytes ≤ 140737488355328 * sz) :
 ∃ v' w', (Builtin.append_ #[t, tx] ty #[v, x]).run P w = .ok v' w' ∧ App w w' e sz v v' xs news ∧ (m = 0 → v' = v) := by
 by_cases hm : 0 < m
 · obtain ⟨v', w', h1, h2⟩ := append_row w t tx ty e i z sz bytes ht hi hz hsize hby hzs hsz v xs hrow x m news hs hm h63 hbytes
   exact ⟨v', w', h1, h2, fun h => by omega⟩
 · have hm0 : m = 0 := by omega
   subst hm0
   have hn : news = [] := List.eq_nil_of_length_eq_zero (by rw [hs.newsLen]; omega)
   subst hn
   obtain ⟨base, n, cap, rfl, hnc⟩ : ∃ base n cap, v = .slice base n cap ∧ n ≤ cap := by
    rcases hrow with ⟨rfl, _⟩ | ⟨g, off, n, cap, cur, rfl, _, hn, _⟩
    · exact ⟨_, _, _, rfl, Nat.le_refl _⟩
    · exact ⟨_, _, _, rfl, hn⟩
   subst hsize
   exact ⟨_, _, run_append_none w t tx ty e i ht hi base n cap hnc x hs, ⟨by rw [List.append_nil]; exact hrow, ⟨rfl, rfl, rfl, Nat.le_refl _, fun _ _ _ => rfl⟩, .inl ⟨rfl, rfl⟩, fun _ _ hu _ => hu⟩, fun _ => rfl⟩

theorem wpList_append_any {ops : Array Oper} {rest : List Oper} {o : Oper} {a : Act} {Q : Exit → Act → World → Prop} (hgd : o.guard = none) (s x : Operand) (t tx : TypeId)
 (ho : o.op = .call { callee := .builtin .append, args := #[s, x], argTypes := #[t, tx] })
 (e : TypeId) (i : TypeInfo) (z : Value) (sz bytes : Nat) (ht : P.underlying t = some (.slice e)) (hi : P.info? e = some i) (hz : i.zero = some z)
 (hsize : i.size = sz) (hby : i.bytes = bytes) (hzs : z.cells.size = sz) (hsz : 0 < sz)
 (v : Value) (xs : List Value) (hev : a.eval s = v) (hrow : Row w e sz v xs) (xv : Value) (m : Nat) (news : List Value) (hx : a.eval x = xv) (hs : Src P sz tx xv m news w)
 (h63 : xs.length + m ≤ maxLen) (hbytes : (xs.length + m * sz) * bytes ≤ 140737488355328 * sz)
 (h : ∀ v' w', App w w' e sz v v' xs news → (m = 0 → v' = v) → wpList P ops Q rest (a.put o.dst v') w') : wpList P ops Q (o :: rest) a w :=
 wpList_plain hgd fun _ hK => by
  obtain ⟨v', w', hr, h2, h3⟩ := append_row_any (P := P) w t tx o.type e i z sz bytes ht hi hz hsize hby hzs hsz v xs hrow xv m news hs h63 hbytes
  unfold Oper.wp execOp
  simp only [ho, resolve, invoke, builtin, Sem.run_bind, Sem.run_pure, Result.andThen_ok, List.map_toArray, List.map_cons, List.map_nil, hev, hx, hr]
  exact hK _ _ (h v' w' h2 h3)

/-- A slice as what is appended. -/
theorem Row.src {e e' tx : TypeId} {v : Value} {xs : List Value} (h : Row w e 1 v xs) (h1 : ∀ u ∈ xs, u.oneCell' = true) (hk : P.underlying tx = some (.slice e')) : Src P 1 tx v xs.length xs w := by
 by_cases hx : xs = []
 · subst hx
   rcases h with ⟨rfl, _⟩ | ⟨g, off, n, cap, cur, rfl, _, _, _, _, hl, _⟩
   · exact Src.ofNil w hk 0
   · have : n = 0 := by simpa using hl.symm
     subst this
     exact Src.ofSlice w hk ⟨g, off, none⟩ 0 cap [] (by simp) (fun j u hu => by simp at hu) (fun u hu => by simp at hu)
 · obtain ⟨g, off, n, cap, rfl, hl, _⟩ := h.shape hx
   have hl' : xs.length = n := by simpa using hl
   rw [hl']
   refine Src.ofSlice w hk ⟨g, off, none⟩ n cap xs hl (fun j u hu => ?_) h1
   rw [Addr.add_lit, h.cell j (by have := (List.getElem?_eq_some_iff.1 hu).1; omega)]; exact hu

end
end Go.Proofs.YtcfngdnmpogaoaaGreat
namespace Go.Proofs.YtcfngdnmpogaoaaGreat
open Go.RowKit
set_option maxHeartbeats 3200000
set_option maxRecDepth 20000
theorem Row.slice {w:World} {v:Value} {xs:List Value} {e:TypeId} (h:Row w e 1 v xs):∃ a c,v = .slice a xs.length c /\ xs.length <= c:=by
 rcases h with ⟨rfl,rfl⟩ | ⟨g,off,n,cap,cur,rfl,_,hn,_,_,hl,_⟩
 . exact ⟨none,0,rfl,Nat.le_refl _⟩
 . have:xs.length = n:=by simpa using hl
   rw [this]
   exact ⟨_,cap,rfl,hn⟩
theorem grow_zero (w:World) :
 Calls Tryz.prog 96 #[.slice none 0 0,.int .i64 0] w fun e w'=>e = .returned (.slice none 0 0) /\ w' = w:=by
 go_enter Tryz.func96,Tryz.ntmps96
 go_wp2
 go_ret
 exact ⟨rfl,rfl⟩
theorem grow_some (n:Nat) (w:World) (h0:0 < n) (hn:n <= 140737488355328) :
 Calls Tryz.prog 96 #[.slice none 0 0,.int .i64 n] w fun e w'=>∃ cap,e = .returned (.slice (some ⟨w.heap.size,0,none⟩) 0 cap) /\ n <= cap /\ Row w' 5 1 (.slice (some ⟨w.heap.size,0,none⟩) 0 cap) [] /\ Below w.heap.size w w':=by
 obtain ⟨i,hi,hz0,hz1,hz2⟩:=info_parts info5
 go_enter Tryz.func96,Tryz.ntmps96
 go_wp2_with (at_builtin;go_must (refine wpList_append_make _ rfl _ _ _ _ rfl 5 i (.int .u8 0) 1 1 Tryz.underlying30 Tryz.underlying3 hi hz0 hz1 hz2 rfl Nat.one_pos n rfl rfl h0 ?hm ?hb ?next))
 case hm=>simp only [maxLen];omega
 case hb=>omega
 intro cap w' hc hk hb hs hr
 go_wp2
 go_ret
 exact ⟨cap,rfl,hc,hr,hb⟩
theorem oneCell_bytes (l:List UInt8):∀ u ∈ l.map byteV,u.oneCell' = true:=fun u hu=>by
 obtain ⟨_,_,rfl⟩:=List.mem_map.1 hu;rfl
theorem grow_any (n:Nat) (w:World) (hn:n <= 140737488355328) :
 Calls Tryz.prog 96 #[.slice none 0 0,.int .i64 n] w fun e w'=>∃ v,e = .returned v /\ Row w' 5 1 v [] /\ (∀ g,v.ownBlock = some g -> w.heap.size <= g) /\ Below w.heap.size w w':=by
 by_cases h0:0 < n
 . refine (grow_some n w h0 hn).mono ?_
   rintro e w' ⟨cap,rfl,_,hr,hb⟩
   exact ⟨_,rfl,hr,fun g hg=>by simp [Value.ownBlock] at hg;omega,hb⟩
 . have:n = 0:=by omega
   subst this
   refine (grow_zero w).mono ?_
   rintro e w' ⟨rfl,rfl⟩
   exact ⟨_,rfl,Row.nil _ _ _,fun g hg=>by simp [Value.ownBlock] at hg,Below.refl _ _⟩
theorem concat_two (b:Nat) (v1 v2:Value) (l1 l2:List UInt8) (w:World) (hb:b < w.heap.size) (c0:w.cell? ⟨b,0,none⟩ = some v1) (c1:w.cell? ⟨b,1,none⟩ = some v2) (h1:Row w 5 1 v1 (l1.map byteV)) (h2:Row w 5 1 v2 (l2.map byteV)) (hl:l1.length + l2.length <= 140737488355328) :
 Calls Tryz.prog 70 #[.slice (some ⟨b,0,none⟩) 2 2] w fun e w'=>∃ v,e = .returned v /\ Row w' 5 1 v ((l1 ++ l2).map byteV) /\ (∀ g,v.ownBlock = some g -> w.heap.size <= g) /\ Below w.heap.size w w':=by
 obtain ⟨i,hi,hz0,hz1,hz2⟩:=info_parts info5
 have H1:=hid h1
 have H2:=hid h2
 have HB1:Hid (∀ k,v1.ownBlock = some k -> k < w.heap.size):=fun k hk=>(h1.blk_lt hk).1
 have HB2:Hid (∀ k,v2.ownBlock = some k -> k < w.heap.size):=fun k hk=>(h2.blk_lt hk).1
 obtain ⟨a1,k1,hv1,hk1⟩:=h1.slice
 obtain ⟨a2,k2,hv2,hk2⟩:=h2.slice
 rw [List.length_map] at hv1 hv2 hk1 hk2
 subst hv1 hv2
 clear h1 h2
 go_enter Tryz.func70,Tryz.ntmps70
 go_wp2
 refine wp_loop_rounds 3 ?_
 rw [rounds_succ]
 go_wp2
 rw [rounds_succ]
 go_wp2
 rw [rounds_succ]
 go_wp2_with fail
 have HG:=grow_any (l1.length + l2.length) w hl
 rw [Int.natCast_add] at HG
 refine HG.mono ?_
 rintro e w1 ⟨v0,rfl,hr0,hg0,hb1⟩
 have d0:w1.cell? ⟨b,0,none⟩ = some (.slice a1 l1.length k1):=by rw [hb1.cell hb];exact c0
 have d1:w1.cell? ⟨b,1,none⟩ = some (.slice a2 l2.length k2):=by rw [hb1.cell hb];exact c1
 have R1:=H1.out.below hb1 HB1.out
 have R2:=H2.out.below hb1 HB2.out
 have S1:Src Tryz.prog 1 30 (.slice a1 l1.length k1) l1.length (l1.map byteV) w1:=by
  have:=Row.src (P:=Tryz.prog) w1 R1 (oneCell_bytes l1) Tryz.underlying30
  rw [List.length_map] at this;exact this
 clear c0 c1 HG
 go_wp2
 refine wp_loop_rounds 3 ?_
 rw [rounds_succ]
 go_wp2_with (at_builtin;go_must (refine wpList_append_any _ rfl _ _ _ _ rfl 5 i (.int .u8 0) 1 1 Tryz.underlying30 hi hz0 hz1 hz2 rfl Nat.one_pos v0 [] rfl hr0 (.slice a1 l1.length k1) l1.length (l1.map byteV) rfl S1 ?h63 ?hby ?next))
 case h63=>simp only [maxLen,List.length_nil];omega
 case hby=>simp only [List.length_nil];omega
 intro v3 w3 ha _
 have hs1:=hb1.size
 have hb3:=ha.below hg0 hs1
 have hg3:=ha.blk hg0 hs1
 have hr3:=ha.row
 have e1:w3.cell? ⟨b,1,none⟩ = some (.slice a2 l2.length k2):=by rw [hb3.cell hb];exact d1
 have R2':=R2.below hb3 HB2.out
 have S2:Src Tryz.prog 1 30 (.slice a2 l2.length k2) l2.length (l2.map byteV) w3:=by
  have:=Row.src (P:=Tryz.prog) w3 R2' (oneCell_bytes l2) Tryz.underlying30
  rw [List.length_map] at this;exact this
 rw [List.nil_append] at hr3
 have HB3:=hid (hb1.trans hb3)
 clear ha hb3 d0 d1 S1 R1 R2 hb1 hr0 hg0
 go_wp2
 rw [rounds_succ]
 go_wp2_with (at_builtin;go_must (refine wpList_append_any _ rfl _ _ _ _ rfl 5 i (.int .u8 0) 1 1 Tryz.underlying30 hi hz0 hz1 hz2 rfl Nat.one_pos v3 (l1.map byteV) rfl hr3 (.slice a2 l2.length k2) l2.length (l2.map byteV) rfl S2 ?h63b ?hbyb ?nextb))
 case h63b=>simp only [maxLen,List.length_map];omega
 case hbyb=>simp only [List.length_map];omega
 intro v4 w4 ha _
 have hs3:=HB3.out.size
 have hb4:=ha.below hg3 hs3
 have hg4:=ha.blk hg3 hs3
 have hr4:=ha.row
 have HB4:=hid (HB3.out.trans hb4)
 clear ha hb4 e1 S2 R2'
 go_wp2
 rw [rounds_succ]
 go_wp2
 go_ret
 exact ⟨v4,rfl,by rw [List.map_append];exact hr4,hg4,HB4.out⟩
end Go.Proofs.YtcfngdnmpogaoaaGreat

/-
  What the proofs of this seat's statements share (LnX).
-/
import Derived.Deep.Cut
import Derived.Deep.CutRange
import Derived.Deep.CutBlock
import Derived.Test.YtfhjcacfchkdpaaGreatDoorU40
import Derived.Test.YtfhjcacfchkdpaaGreatDoorU46
set_option maxRecDepth 100000
set_option maxHeartbeats 32000000
namespace Go.Proofs.YtfhjcacfchkdpaaGreatDoor
open Go.RowKit
def QQ(X:aL)(a:List UInt8)(W:World)(e:Ending)(w' :World):Prop:=∃A n c B m d vs,e= .returned (.tuple #[.agg #[.int .i64 X.things,.int .i64 X.now.known,.slice A n c,.slice B m d],.string (cJ a)])∧mE w' W.heap.size (.slice A n c) (.slice B m d) vs X.now.op X.past∧Below W.heap.size W w'
theorem uT{T X:aL}{A B:Option Addr}{n c m d:Nat}{s:ByteArray}{a:List UInt8}{w:World}(h:Hid (lV T s=(X,a)))(hT:bN w T A n c B m d)(hs:cD T)(hx:s.size≤1048576)(hg:fA w):
  Calls Tryz.prog 14 #[.agg #[.int .i64 T.things,.int .i64 T.now.known,.slice A n c,.slice B m d],.string s] w (QQ X a w):=by
 have:=N3 T A B n c m d s w hT hs hx hg
 rw[h.out] at this
 refine this.mono ?_
 rintro e w' ⟨o,p,vs,rfl,ho,hp,hap,hb⟩
 obtain⟨A',c',B',d',rfl,rfl,_⟩:=qO ho hp
 exact⟨A',_,c',B',_,d',vs,rfl,⟨ho,hp,hap⟩,hb⟩
theorem EQ{T X:aL}{A B:Option Addr}{n c m d:Nat}{s:ByteArray}{a:List UInt8}{w:World}(h:Hid (lV T s=(X,a)))(hT:bN w T A n c B m d)(hs:cD T)(hx:s.size≤1048576):
  Calls Tryz.prog 21 #[.agg #[.int .i64 T.things,.int .i64 T.now.known,.slice A n c,.slice B m d],.string s] w (C0 X a w):=by
 have:=ON T A B n c m d s w hT hs hx
 rw[h.out] at this;exact this
theorem EZ{T:aL}{s:ByteArray}:cD (lV T s).1:=by
 cases h:dP T with
 |true=>rw[uE h];exact lQ (CA aH sR p5 s h).1
 |false=>rw[wY h];exact⟨Nat.zero_le _,Nat.zero_le _,fun s hs=>absurd hs (by simp[lW]),fun x hx=>absurd hx (by simp[lW])⟩
set_option linter.unusedSimpArgs false in
theorem TD(T:aL)(A B:Option Addr)(n c m d:Nat)(s:ByteArray)(w:World)(hT:bN w T A n c B m d)(hs:QC T)(hsz:s.size≤maxLen)(hg:fA w):
  Calls Tryz.prog 6 #[.agg #[.int .i64 T.things,.int .i64 T.now.known,.slice A n c,.slice B m d],.string s] w fun e w' =>e= .returned (.bool true)∧Below w.heap.size w w' :=by
 have HX:Hid (aD (w.alloc (.cells #[.int .i64 T.things,.int .i64 T.now.known,.slice A n c,.slice B m d] 57)) w.heap.size 57 [.int .i64 T.things,.int .i64 T.now.known,.slice A n c,.slice B m d]):=aD.new w _ [.int .i64 T.things,.int .i64 T.now.known,.slice A n c,.slice B m d]
 have HB0:Hid (Below w.heap.size w (w.alloc (.cells #[.int .i64 T.things,.int .i64 T.now.known,.slice A n c,.slice B m d] 57))):=pN _ _
 have HT0:=zH (hT.below HB0.out)
 have HG0:=zH (hg.below HB0.out)
 have HBG:=zH hs
 unfold maxLen at hsz
 clear hT hs hg
 by_cases hl:1048576<s.size
 ·have hd:decide ((1048576:Int)<(s.size:Int))=true:=decide_eq_true (by omega)
  go_enter Tryz.func6,Tryz.ntmps6
  go_wp2_with fail
  go_ret
  exact⟨rfl,HB0.out⟩
 have hd:decide ((1048576:Int)<(s.size:Int))=false:=decide_eq_false (by omega)
 have HSZ:Hid (s.size≤1048576):=by unfold Hid;omega
 clear hl
 go_enter Tryz.func6,Tryz.ntmps6
 go_upto_region 3 with fail
 clear hd
 obtain⟨W0,hW0⟩:∃W,w.alloc (.cells #[.int .i64 T.things,.int .i64 T.now.known,.slice A n c,.slice B m d] 57)=W:=⟨_,rfl⟩
 rw[hW0] at HX HB0 HT0 HG0⊢
 clear hW0
 have HQ:Hid (∀W,Below W0.heap.size W0 W→(W.cell? ⟨w.heap.size,0,none⟩=some (.int .i64 T.things)∧W.cell? ⟨w.heap.size,1,none⟩=some (.int .i64 T.now.known)∧W.cell? ⟨w.heap.size,2,none⟩=some (.slice A n c)∧W.cell? ⟨w.heap.size,3,none⟩=some (.slice B m d))):=fun W hb=>⟨(HX.out.below hb).cell rfl,(HX.out.below hb).cell rfl,(HX.out.below hb).cell rfl,(HX.out.below hb).cell rfl⟩
 obtain⟨hc0,hc1,hc2,hc3⟩:=HQ.out W0 (Below.refl _ _)
 go_wp2_with fail
 refine(UE T A B n c m d 1048576 W0 HT0.out HBG.out (by omega) (by omega)).mono ?_
 rintro e w1 ⟨⟨q,rfl,hq1,hq2,hq3⟩,hb⟩
 have HB1:=zH hb
 have HQQ:=zH hq2
 clear hb hq2 hc0 hc1 hc2 hc3
 by_cases hq:q<0
 ·have hd:decide (q<0)=true:=decide_eq_true hq
  go_wp2_with fail
  go_ret
  exact⟨rfl,aA HB0.out HB1.out⟩
 have hd:decide (q<0)=false:=decide_eq_false hq
 have HS:=zH (HQQ.out (by omega))
 obtain⟨hc0,hc1,hc2,hc3⟩:=HQ.out w1 HB1.out
 obtain⟨P,hP⟩:∃P,lV T s=P:=⟨_,rfl⟩
 have HSX:Hid (cD P.1):=by unfold Hid;rw[←hP];exact EZ
 obtain⟨X,a⟩:=P
 have HD:=zH hP
 have HTO:Hid (∀W,Below W0.heap.size W0 W→Calls Tryz.prog 29 #[.agg #[.int .i64 T.things,.int .i64 T.now.known,.slice A n c,.slice B m d]] W (OW T W)):=fun W hb=>KD (HT0.out.below hb) HS.out
 have hsa:((cJ a).toList==(cJ a).toList)=true:=sW _
 have hsb:((cJ a).toList != (cJ a).toList)=false:=by rw[bne,hsa];rfl
 clear hP
 go_wp2_with fail
 refine(HTO.out _ HB1.out).mono ?_
 rintro e w2 ⟨A6,n6,c6,B6,m6,d6,vs6,mid6,rfl,hi6,_,hb⟩
 have HB2:=zH (aA HB1.out hb)
 have HI2:=zH hi6.at_
 clear hb hi6 hc0 hc1 hc2 hc3 hd
 go_wp2_with fail
 refine(EQ HD HI2.out HS.out HSZ.out).mono ?_
 rintro e w3 ⟨A5,n5,c5,B5,m5,d5,rfl,hown,hb⟩
 have HT3:=zH hown.at_
 have HB3' :=zH (aA HB2.out hb)
 clear hown hb HI2
 go_upto_region 8 with fail
 have hZ:=aD.new w3 33 [.int .i64 X.things,.int .i64 X.now.known,.slice A5 n5 c5,.slice B5 m5 d5]
 have hbel:=oA w3 (.cells #[.int .i64 X.things,.int .i64 X.now.known,.slice A5 n5 c5,.slice B5 m5 d5] 33)
 have HT6:=zH (HT3.out.below hbel)
 have HB3:=zH (aA HB3'.out hbel)
 obtain⟨h6,hh6⟩:∃h6,w3.heap.size=h6:=⟨_,rfl⟩
 obtain⟨W3,hW3⟩:∃W,w3.alloc (.cells #[.int .i64 X.things,.int .i64 X.now.known,.slice A5 n5 c5,.slice B5 m5 d5] 33)=W:=⟨_,rfl⟩
 rw[hW3] at hZ HT6 HB3
 rw[hW3]
 rw[hh6] at hZ
 try rw[hh6]
 have H6:Hid (DX W3 h6 X A5 n5 c5 B5 m5 d5):=⟨hZ,HT6.out⟩
 clear hZ hbel hW3 hh6 HT6 HT3 HB3'
 obtain⟨hc0,hc1,hc2,hc3⟩:=HQ.out W3 HB3.out
 go_wp2_with fail
 refine(HTO.out _ HB3.out).mono ?_
 rintro e w4 ⟨A8,n8,c8,B8,m8,d8,vs8,mid8,rfl,_,ho8,hb⟩
 have HO4:=zH ho8.ownA
 have HB4:=zH hb
 clear hc0 hc1 hc2 hc3 ho8 hb
 go_upto_region 9 with fail
 have hZ:=aD.new w4 33 [.int .i64 T.things,.int .i64 T.now.known,.slice A8 n8 c8,.slice B8 m8 d8]
 have hbel:=oA w4 (.cells #[.int .i64 T.things,.int .i64 T.now.known,.slice A8 n8 c8,.slice B8 m8 d8] 33)
 have HO5:=zH (HO4.out.below hbel)
 have HB5:=zH (aA HB4.out hbel)
 obtain⟨h8,hh8⟩:∃h8,w4.heap.size=h8:=⟨_,rfl⟩
 obtain⟨W5,hW5⟩:∃W,w4.alloc (.cells #[.int .i64 T.things,.int .i64 T.now.known,.slice A8 n8 c8,.slice B8 m8 d8] 33)=W:=⟨_,rfl⟩
 rw[hW5] at hZ HO5 HB5
 rw[hW5]
 rw[hh8] at hZ
 try rw[hh8]
 have HZ8:=zH hZ
 have HLT5:Hid (∀b,BZ (.slice A8 n8 c8) (.slice B8 m8 d8) vs8 b→W3.heap.size≤b∧b<W5.heap.size):=fun b hb=>CF HO5.out.1 HO5.out.2.1 hb
 have HL35:Hid (W3.heap.size≤W5.heap.size):=HB5.out.size
 clear hZ hbel hW5 hh8 HO4 HB4
 have HB5W:=zH (aA HB3.out HB5.out)
 have HG5:Hid (fA W5):=HG0.out.below HB5W.out
 have hc0:=HZ8.out.cell (i:=0) (v:= .int .i64 T.things) rfl
 have hc1:=HZ8.out.cell (i:=1) (v:= .int .i64 T.now.known) rfl
 have hc2:=HZ8.out.cell (i:=2) (v:= .slice A8 n8 c8) rfl
 have hc3:=HZ8.out.cell (i:=3) (v:= .slice B8 m8 d8) rfl
 go_wp2_with fail
 refine(uT HD HO5.out.at_ HS.out HSZ.out HG5.out).mono ?_
 rintro e w6 ⟨A9,n9,c9,B9,m9,d9,vs9,rfl,hown,hb⟩
 have HG6:=zH hown
 have HB56:=zH hb
 clear hown hb hc0 hc1 hc2 hc3
 go_upto_region 10 with fail
 have hZ:=aD.new w6 33 [.int .i64 X.things,.int .i64 X.now.known,.slice A9 n9 c9,.slice B9 m9 d9]
 have hbel:=oA w6 (.cells #[.int .i64 X.things,.int .i64 X.now.known,.slice A9 n9 c9,.slice B9 m9 d9] 33)
 have HG:=zH (HG6.out.below hbel)
 have HB6:=zH (aA HB56.out hbel)
 obtain⟨h9,hh9⟩:∃h9,w6.heap.size=h9:=⟨_,rfl⟩
 obtain⟨W6,hW6⟩:∃W,w6.alloc (.cells #[.int .i64 X.things,.int .i64 X.now.known,.slice A9 n9 c9,.slice B9 m9 d9] 33)=W:=⟨_,rfl⟩
 rw[hW6] at hZ HG HB6
 rw[hW6]
 rw[hh9] at hZ
 try rw[hh9]
 have H9:=zH hZ
 have HB36:=zH (aA HB5.out HB6.out)
 clear hZ hbel hW6 hh9 HG6 HB56
 have H66:=zH (H6.out.below HB36.out)
 have hc0:=H9.out.cell (i:=0) (v:= .int .i64 X.things) rfl
 have hc1:=H9.out.cell (i:=1) (v:= .int .i64 X.now.known) rfl
 have hc2:=H9.out.cell (i:=2) (v:= .slice A9 n9 c9) rfl
 have hc3:=H9.out.cell (i:=3) (v:= .slice B9 m9 d9) rfl
 obtain⟨hd0,hd1,hd2,hd3⟩:=H66.out.cells
 go_wp2_with fail
 refine(xT X A9 B9 A5 B5 n9 c9 m9 d9 n5 c5 m5 d5 _ HG.out.at_ H66.out.t HSX.out).mono ?_
 rintro e w7 ⟨rfl,hb⟩
 have H97:=zH (H9.out.below hb)
 have HG7:=zH (HG.out.below hb)
 have HB57:=zH (aA HB6.out hb)
 have HB37:=zH (aA HB36.out hb)
 clear hb hc0 hc1 hc2 hc3 hd0 hd1 hd2 hd3 H66 HB36 HB6 H9 HG
 go_upto_region 12 with fail
 obtain⟨W7,hW7⟩:∃W,w7=W:=⟨_,rfl⟩
 rw[hW7] at H97 HG7 HB57 HB37⊢
 clear hW7
 have HBU:Hid (∀W,Below W7.heap.size W7 W→Below W0.heap.size W0 W):=fun W hb=>aA (aA HB3.out HB37.out) hb
 have HZ87:=zH (HZ8.out.below HB57.out)
 have HO7:=zH (HO5.out.below HB57.out)
 have HQ13:Hid (∀W,Below W7.heap.size W7 W→(W.cell? ⟨h8,0,none⟩=some (.int .i64 T.things)∧W.cell? ⟨h8,1,none⟩=some (.int .i64 T.now.known)∧W.cell? ⟨h8,2,none⟩=some (.slice A8 n8 c8)∧W.cell? ⟨h8,3,none⟩=some (.slice B8 m8 d8))∧(W.cell? ⟨w.heap.size,0,none⟩=some (.int .i64 T.things)∧W.cell? ⟨w.heap.size,1,none⟩=some (.int .i64 T.now.known)∧W.cell? ⟨w.heap.size,2,none⟩=some (.slice A n c)∧W.cell? ⟨w.heap.size,3,none⟩=some (.slice B m d))):=fun W hb=>⟨⟨(HZ87.out.below hb).cell rfl,(HZ87.out.below hb).cell rfl,(HZ87.out.below hb).cell rfl,(HZ87.out.below hb).cell rfl⟩,HQ.out W (HBU.out W hb)⟩
 have HE13:Hid (∀W A6 n6 c6 B6 m6 d6,Below W7.heap.size W7 W→bN W T A6 n6 c6 B6 m6 d6→Calls Tryz.prog 30 #[.agg #[.int .i64 T.things,.int .i64 T.now.known,.slice A8 n8 c8,.slice B8 m8 d8],.agg #[.int .i64 T.things,.int .i64 T.now.known,.slice A6 n6 c6,.slice B6 m6 d6]] W fun e w' =>e= .returned (.bool true)∧Below W.heap.size W w'):=fun W A6 n6 c6 B6 m6 d6 hb ht=>xT T A8 B8 A6 B6 n8 c8 m8 d8 n6 c6 m6 d6 W (HO7.out.below hb).at_ ht HS.out
 obtain⟨⟨hc0,hc1,hc2,hc3⟩,hd0,hd1,hd2,hd3⟩:=HQ13.out W7 (Below.refl _ _)
 go_cut [52] from 48 to 53 (fun s52 wx=>s52= .bool false∧Below W7.heap.size W7 wx)
 case first=>
  have HB:Hid (Below W7.heap.size W7 W7.drew):=aE (Below.refl _ _) 1
  refine wp_region_held_drew (S:=(fun w' =>(w'.cell? ⟨h8,0,none⟩=some (.int .i64 T.things)∧w'.cell? ⟨h8,1,none⟩=some (.int .i64 T.now.known)∧w'.cell? ⟨h8,2,none⟩=some (.slice A8 n8 c8)∧w'.cell? ⟨h8,3,none⟩=some (.slice B8 m8 d8))∧(w'.cell? ⟨w.heap.size,0,none⟩=some (.int .i64 T.things)∧w'.cell? ⟨w.heap.size,1,none⟩=some (.int .i64 T.now.known)∧w'.cell? ⟨w.heap.size,2,none⟩=some (.slice A n c)∧w'.cell? ⟨w.heap.size,3,none⟩=some (.slice B m d)))) (by kernel_rfl) ?_ (fun hHeld=> ?_)
  ·exact HQ13.out _ HB.out
  obtain⟨wd,hwd⟩:∃wd,W7.drew=wd:=⟨_,rfl⟩
  rw[hwd] at HB hHeld⊢
  clear hwd
  refine zT 0 (h:=?_)
  try simp only[Act.put,zS]
  refine zT 1 (h:=?_)
  try simp only[Act.put,zS]
  refine wpAnyH_ready (rs:=[2]) (by kernel_rfl) (by simp) ?_
  refine AllReadyH.cons rfl (fun K hK=> ?_) AllReadyH.nil
  (go_simp;go_at_call 29;refine(HTO.out _ (HBU.out _ HB.out)).mono ?_;rintro e wA ⟨A6,n6,c6,B6,m6,d6,vs6,mid6,rfl,hi6,_,hb⟩;replace HB:=zH (aA HB.out hb);have HI:=zH hi6.at_;clear hb hi6)
  refine hK.out _ _ ?_ (fun hHeld=> ?_)
  ·exact HQ13.out _ HB.out
  clear hK K
  try simp only[Act.put,zS]
  refine wpAnyH_ready (rs:=[3]) (by kernel_rfl) (by simp) ?_
  refine AllReadyH.cons rfl (fun K hK=> ?_) AllReadyH.nil
  (go_simp;go_at_call 30;refine(HE13.out _ _ _ _ _ _ _ HB.out HI.out).mono ?_;rintro e wE ⟨rfl,hb⟩;replace HB:=zH (aA HB.out hb);clear hb)
  refine hK.out _ _ ?_ (fun hHeld=> ?_)
  ·exact HQ13.out _ HB.out
  clear hK K
  try simp only[Act.put,zS]
  refine zT 4 (h:=?_)
  try simp only[Act.put,zS]
  refine wpAnyH_done (by kernel_rfl) ?_ _
  go_wp2_with fail
  go_meet
  exact⟨rfl,HB.out⟩
 case rest=>
  obtain⟨rfl,hbw⟩:=hcut
  obtain⟨W8,rfl⟩:∃W,W=wc:=⟨_,rfl⟩
  have H98:=zH (H97.out.below hbw)
  have HG8:=zH (HG7.out.below hbw)
  have HO8:=zH (HO7.out.below hbw)
  have HZ88:=zH (HZ87.out.below hbw)
  have HB38:=zH (aA HB37.out hbw)
  clear hbw hc0 hc1 hc2 hc3 hd0 hd1 hd2 hd3 HBU HQ13 HE13 H97 HG7 HO7 HZ87 HB37 HB57
  have hc0:=HZ88.out.cell (i:=0) (v:= .int .i64 T.things) rfl
  have hc1:=HZ88.out.cell (i:=1) (v:= .int .i64 T.now.known) rfl
  have hc2:=HZ88.out.cell (i:=2) (v:= .slice A8 n8 c8) rfl
  have hc3:=HZ88.out.cell (i:=3) (v:= .slice B8 m8 d8) rfl
  have HMK:=zH (DO T.things T.now.known T.now.op T.past A8 B8 n8 c8 m8 d8 W3.heap.size vs8 W8 HO8.out.at_.hn HO8.out.at_.pn (by rw[HO8.out.at_.hn];exact HS.out.op) (by rw[HO8.out.at_.pn];exact HS.out.past) (fun x hx=>(HS.out.ops x hx).1) HO8.out)
  obtain⟨y,hy⟩:∃y:Nat,1+n8+f8 (dV T.past)=y:=⟨_,rfl⟩
  rw[hy] at HMK
  clear hy
  have hyn:decide ((y:Int)<0)=false:=decide_eq_false (by omega)
  go_wp2_with fail
  refine HMK.out.mono ?_
  rintro e w9 ⟨rfl,_,_,ht⟩
  have HB39:=zH (ht.below HB38.out HB38.out.size (fun b hb=>(HLT5.out b hb).1))
  have H99:=zH (H98.out.turns ht (GU HO8.out H98.out (by decide) (by decide)))
  have HG9:=zH (HG8.out.turns ht (fun b h1 h2=>by have a1:=(CF HG8.out.1 HG8.out.2.1 h1).1;have a2:=(HLT5.out b h2).2;omega))
  have H69:=zH (H6.out.below HB39.out)
  clear ht hc0 hc1 hc2 hc3 H98 HG8 HO8 HZ88 HB38 HMK
  have hc0:=H99.out.cell (i:=0) (v:= .int .i64 X.things) rfl
  have hc1:=H99.out.cell (i:=1) (v:= .int .i64 X.now.known) rfl
  have hc2:=H99.out.cell (i:=2) (v:= .slice A9 n9 c9) rfl
  have hc3:=H99.out.cell (i:=3) (v:= .slice B9 m9 d9) rfl
  obtain⟨hd0,hd1,hd2,hd3⟩:=H69.out.cells
  go_wp2_with fail
  refine(xT X A9 B9 A5 B5 n9 c9 m9 d9 n5 c5 m5 d5 _ HG9.out.at_ H69.out.t HSX.out).mono ?_
  rintro e w10 ⟨rfl,hb⟩
  have H910:=zH (H99.out.below hb)
  have HG10:=zH (HG9.out.below hb)
  have HB310:=zH (aA HB39.out hb)
  clear hb hc0 hc1 hc2 hc3 hd0 hd1 hd2 hd3 H99 HG9 HB39 H69
  have hc0:=H910.out.cell (i:=0) (v:= .int .i64 X.things) rfl
  have hc1:=H910.out.cell (i:=1) (v:= .int .i64 X.now.known) rfl
  have hc2:=H910.out.cell (i:=2) (v:= .slice A9 n9 c9) rfl
  have hc3:=H910.out.cell (i:=3) (v:= .slice B9 m9 d9) rfl
  have hn9:=HG10.out.at_.hn
  have hm9:=HG10.out.at_.pn
  have hn9l:n9≤1048576:=by rw[hn9];exact HSX.out.op
  have hm9l:m9≤1048576:=by rw[hm9];exact HSX.out.past
  have HM9:Hid (m9=(dV X.past).length):=by unfold Hid;rw[oO];exact hm9
  have HMK:=zH (DO X.things X.now.known X.now.op X.past A9 B9 n9 c9 m9 d9 W5.heap.size vs9 _ hn9 hm9 hn9l hm9l (fun x hx=>(HSX.out.ops x hx).1) HG10.out)
  obtain⟨z,hz⟩:∃z:Nat,1+n9+f8 (dV X.past)=z:=⟨_,rfl⟩
  have HZE:=zH hz
  rw[hz] at HMK
  clear hz hn9 hm9
  have hzn:decide ((z:Int)<0)=false:=decide_eq_false (by omega)
  have hzz:((z:Int) != (z:Int))=false:=by simp
  go_wp2_with fail
  refine HMK.out.mono ?_
  rintro e w11 ⟨rfl,hos,⟨us,hox⟩,ht⟩
  have HB311:=zH (ht.below HB310.out HB310.out.size (fun b hb=>by have a1:=(CF HG10.out.1 HG10.out.2.1 hb).1;have a2:=HL35.out;omega))
  have H911:=zH (H910.out.turns ht (GU HG10.out H910.out (by decide) (by decide)))
  have HMA:Hid (a7 w11 A9 (iM 1 n9)):=RZ hos
  have HMB:Hid (b6 w11 B9 (j4 (1+n9) (dV X.past))):=SP hox
  clear ht hos hox hc0 hc1 hc2 hc3 HMK H910 HG10 HB310
  have HHE:Hid (∀W,a7 W A9 (iM 1 n9)→b6 W B9 (j4 (1+n9) (dV X.past))→Calls Tryz.prog 32 #[.agg #[.int .i64 X.things,.int .i64 X.now.known,.slice A9 n9 c9,.slice B9 m9 d9],.int .i64 1] W fun e w' =>e= .returned (.int .i64 (z:Int))∧Below W.heap.size W w'):=fun W h1 h2=>by
   have:=OR X.things X.now.known A9 B9 n9 c9 m9 d9 (dV X.past) W hn9l HM9.out hm9l (zI fun x hx=>(HSX.out.ops x hx).1) h1 h2
   rw[HZE.out] at this;exact this
  have hc0:=H911.out.cell (i:=0) (v:= .int .i64 X.things) rfl
  have hc1:=H911.out.cell (i:=1) (v:= .int .i64 X.now.known) rfl
  have hc2:=H911.out.cell (i:=2) (v:= .slice A9 n9 c9) rfl
  have hc3:=H911.out.cell (i:=3) (v:= .slice B9 m9 d9) rfl
  go_wp2_with fail
  refine(HHE.out _ HMA.out HMB.out).mono ?_
  rintro e w12 ⟨rfl,hb⟩
  have H912:=zH (H911.out.below hb)
  have HMA2:=zH (HMA.out.below hb)
  have HMB2:=zH (HMB.out.below hb)
  have HB312:=zH (aA HB311.out hb)
  clear hb hc0 hc1 hc2 hc3 H911 HMA HMB HB311
  have HB012:=zH (aA HB3.out HB312.out)
  obtain⟨hc0,hc1,hc2,hc3⟩:=HQ.out w12 HB012.out
  go_wp2_with fail
  refine(HTO.out _ HB012.out).mono ?_
  rintro e w13 ⟨A6,n6,c6,B6,m6,d6,vs6,mid6,rfl,hi6,_,hb⟩
  have HI13:=zH hi6.at_
  have HG13:Hid (fA w13):=HG0.out.below (aA HB012.out hb)
  have H913:=zH (H912.out.below hb)
  have HMA3:=zH (HMA2.out.below hb)
  have HMB3:=zH (HMB2.out.below hb)
  have HB313:=zH (aA HB312.out hb)
  clear hb hi6 hc0 hc1 hc2 hc3 H912 HMA2 HMB2 HB312 HB012
  go_wp2_with fail
  refine(uT HD HI13.out HS.out HSZ.out HG13.out).mono ?_
  rintro e w14 ⟨A14,n14,c14,B14,m14,d14,vs14,rfl,hown,hb⟩
  have HT14:=zH hown.at_
  have H914:=zH (H913.out.below hb)
  have HMA4:=zH (HMA3.out.below hb)
  have HMB4:=zH (HMB3.out.below hb)
  have HB314:=zH (aA HB313.out hb)
  clear hown hb H913 HMA3 HMB3 HB313 HI13 HG13
  go_upto_region 27 with fail
  have hZ:=aD.new w14 33 [.int .i64 X.things,.int .i64 X.now.known,.slice A14 n14 c14,.slice B14 m14 d14]
  have hbel:=oA w14 (.cells #[.int .i64 X.things,.int .i64 X.now.known,.slice A14 n14 c14,.slice B14 m14 d14] 33)
  have HT15:=zH (HT14.out.below hbel)
  have H915:=zH (H914.out.below hbel)
  have HMA5:=zH (HMA4.out.below hbel)
  have HMB5:=zH (HMB4.out.below hbel)
  have HB315:=zH (aA HB314.out hbel)
  obtain⟨h14,hh14⟩:∃h14,w14.heap.size=h14:=⟨_,rfl⟩
  obtain⟨W10,hW10⟩:∃W,w14.alloc (.cells #[.int .i64 X.things,.int .i64 X.now.known,.slice A14 n14 c14,.slice B14 m14 d14] 33)=W:=⟨_,rfl⟩
  rw[hW10] at hZ HT15 H915 HMA5 HMB5 HB315
  rw[hW10]
  rw[hh14] at hZ
  try rw[hh14]
  have H14:Hid (DX W10 h14 X A14 n14 c14 B14 m14 d14):=⟨hZ,HT15.out⟩
  have H615:=zH (H6.out.below HB315.out)
  clear hZ hbel hW10 hh14 HT15 HT14 H914 HMA4 HMB4 HB314
  obtain⟨hc0,hc1,hc2,hc3⟩:=H14.out.cells
  obtain⟨hd0,hd1,hd2,hd3⟩:=H615.out.cells
  go_wp2_with fail
  refine(xT X A14 B14 A5 B5 n14 c14 m14 d14 n5 c5 m5 d5 _ H14.out.t H615.out.t HSX.out).mono ?_
  rintro e w16 ⟨rfl,hb⟩
  have H916:=zH (H915.out.below hb)
  have HMA6:=zH (HMA5.out.below hb)
  have HMB6:=zH (HMB5.out.below hb)
  have HB316:=zH (aA HB315.out hb)
  clear hb hc0 hc1 hc2 hc3 hd0 hd1 hd2 hd3 H915 HMA5 HMB5 HB315 H14 H615
  have hc0:=H916.out.cell (i:=0) (v:= .int .i64 X.things) rfl
  have hc1:=H916.out.cell (i:=1) (v:= .int .i64 X.now.known) rfl
  have hc2:=H916.out.cell (i:=2) (v:= .slice A9 n9 c9) rfl
  have hc3:=H916.out.cell (i:=3) (v:= .slice B9 m9 d9) rfl
  go_wp2_with fail
  refine(HHE.out _ HMA6.out HMB6.out).mono ?_
  rintro e w17 ⟨rfl,hb⟩
  have HBE:=zH (aA (aA HB0.out HB3.out) (aA HB316.out hb))
  clear hb hc0 hc1 hc2 hc3
  go_wp2_with fail
  go_ret
  exact⟨rfl,HBE.out⟩
end Go.Proofs.YtfhjcacfchkdpaaGreatDoor

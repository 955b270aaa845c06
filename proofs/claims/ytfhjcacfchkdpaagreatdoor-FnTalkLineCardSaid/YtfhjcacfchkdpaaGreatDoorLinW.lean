/-
  Chapter 9, by the door: the law of TalkLine.
-/
import Derived.Test.YtfhjcacfchkdpaaGreatDoorLinA
import Derived.Test.YtfhjcacfchkdpaaGreatDoorLineD
set_option maxRecDepth 100000
set_option maxHeartbeats 32000000
namespace Go.Proofs.YtfhjcacfchkdpaaGreatDoor
open Go.RowKit
theorem lAlive(w:World):Calls Tryz.prog 19 #[] w fun e w' =>e= .returned (.bool true)∧w=w' :=by
 go_enter Tryz.func19,Tryz.ntmps19
 go_wp2_with fail
 refine(eE _ _).mono ?_
 rintro e w' ⟨rfl,rfl⟩
 simp only[eP]
 go_wp2_with fail
 refine(eE _ _).mono ?_
 rintro e w' ⟨rfl,rfl⟩
 simp only[eP]
 go_wp2_with fail
 go_ret
 exact⟨rfl,rfl⟩
set_option linter.unusedSimpArgs false in
theorem wTalkLine(A:Option Addr)(nn c:Nat)(zs:List Int)(w:World)(hn:nn=zs.length)(hc:nn≤c)(hm:c≤maxLen)(hr:∀z∈zs,0≤z∧z≤255)(hA:cB .u8 w A zs)(hg:fA w):
  Calls Tryz.prog 4 #[.slice A nn c] w fun e w' =>e= .returned (.bool true)∧Below w.heap.size w w' :=by
 have HO:=zH (drawTalkLine_any A nn c zs w hn hc hm hr hA)
 have HGW:=zH hg
 have hm' :nn≤9223372036854775807:=by unfold maxLen at hm;omega
 clear hn hc hm hr hA hg
 by_cases hl:1048576<nn
 ·have hd:decide ((1048576:Int)<(nn:Int))=true:=decide_eq_true (by omega)
  go_enter Tryz.func4,Tryz.ntmps4
  go_wp2_with fail
  go_ret
  exact⟨rfl,Below.refl _ _⟩
 have hd:decide ((1048576:Int)<(nn:Int))=false:=decide_eq_false (by omega)
 clear hl
 go_enter Tryz.func4,Tryz.ntmps4
 go_wp2_with fail
 refine HO.out.mono ?_
 rintro e w1 ⟨T,A1,n1,c1,B1,m1,d1,s,rfl,hT,hs,hsz,hb⟩
 have HL0:=TalkL.new hT hb
 have HS:=zH hs
 have HSZ:Hid (s.size≤1048576):=by unfold Hid;omega
 obtain⟨P,hP⟩:∃P,lV T s=P:=⟨_,rfl⟩
 have HSX:Hid (cD P.1):=by unfold Hid;rw[←hP];exact lineTo_smallP
 obtain⟨X,a⟩:=P
 have HD:=zH hP
 clear hT hs hsz hb hP
 go_upto_region 4 with fail
 obtain⟨W3,hW3⟩:∃W,w1.alloc (.cells #[.int .i64 T.things,.int .i64 T.now.known,.slice A1 n1 c1,.slice B1 m1 d1] 33)=W:=⟨_,rfl⟩
 obtain⟨a3,ha⟩:∃a,w1.heap.size=a:=⟨_,rfl⟩
 rw[hW3,ha] at HL0
 rw[hW3]
 try rw[ha]
 have HL:=zH HL0
 clear hW3 ha HL0
 obtain⟨hc0,hc1,hc2,hc3⟩:=HL.out.x.cells
 go_wp2_with fail
 refine(iTalkLine_p HD HL.out.x.t HS.out HSZ.out (HGW.out.below HL.out.b)).mono ?_
 rintro e w4 ⟨A5,n5,c5,B5,m5,d5,rfl,ht,hb⟩
 clear hc0 hc1 hc2 hc3
 go_upto_region 5 with fail
 obtain⟨h5,W4,hh5,hW4,HL4,HZ,_⟩:=put_talk HL.out ht hb
 rw[hW4]
 try rw[hh5]
 clear hW4 hh5 HL ht hb
 obtain⟨hc0,hc1,hc2,hc3⟩:=HL4.out.x.cells
 go_wp2_with fail
 refine(sTalkLine_p HD HL4.out.x.t HS.out HSZ.out).mono ?_
 rintro e w5 ⟨A7,n7,c7,B7,m7,d7,rfl,ht,hb⟩
 clear hc0 hc1 hc2 hc3
 go_upto_region 6 with fail
 obtain⟨h7,W5,hh7,hW5,HL5,HV,hbW⟩:=put_talk HL4.out ht hb
 have HZ5:=zH (HZ.out.below hbW.out)
 rw[hW5]
 try rw[hh7]
 clear hW5 hh7 HL4 HZ ht hb hbW
 obtain⟨hc0,hc1,hc2,hc3⟩:=HZ5.out.cells
 obtain⟨hd0,hd1,hd2,hd3⟩:=HV.out.cells
 have hsb:((cJ a).toList != (cJ a).toList)=false:=by rw[bne,sW];rfl
 go_wp2_with fail
 refine(XX X X A5 B5 A7 B7 n5 c5 m5 d5 n7 c7 m7 d7 _ HZ5.out.t HV.out.t HSX.out HSX.out).mono ?_
 rintro e w6 ⟨⟨b,rfl,hbt⟩,hb⟩
 obtain rfl:b=true:=hbt rfl
 have HL6:=zH (HL5.out.below hb)
 have HZ6:=zH (HZ5.out.below hb)
 clear hc0 hc1 hc2 hc3 hd0 hd1 hd2 hd3 HL5 HZ5 HV hbt hb hd
 obtain⟨z,hz⟩:∃z,dP T=z:=⟨_,rfl⟩
 have HOK:=zH hz
 clear hz
 obtain⟨hc0,hc1,hc2,hc3⟩:=HL6.out.x.cells
 have HTO:=zH (q7 T A1 B1 n1 c1 m1 d1 _ HL6.out.x.t HS.out)
 rw[HOK.out] at HTO
 go_wp2_with fail
 refine HTO.out.mono ?_
 rintro e w7 ⟨rfl,hb⟩
 have HL7:=zH (HL6.out.below hb)
 have HZ7:=zH (HZ6.out.below hb)
 clear hc0 hc1 hc2 hc3 HL6 HZ6 hb HTO hsb
 cases z with
 |false=>
  have hXA:X=lW∧a=[]:=by
   have h2:=HD.out
   rw[wY HOK.out] at h2
   cases h2
   exact⟨rfl,rfl⟩
  have HXN:=zH hXA.1
  have he1:(cJ a).toList.isEmpty=true:=by rw[hXA.2,ByteArray.toList_eq];rfl
  have he2:((cJ a).toList==[])=true:=by rw[hXA.2,ByteArray.toList_eq];rfl
  clear hXA
  obtain⟨hd0,hd1,hd2,hd3⟩:=HZ7.out.cells
  go_wp2_with fail
  refine(lNoTalk X A5 B5 n5 c5 m5 d5 _ HZ7.out.t HSX.out).mono ?_
  rintro e w8 ⟨⟨b,rfl,hbt⟩,hb⟩
  obtain rfl:b=true:=hbt HXN.out
  have HL8:=zH (HL7.out.below hb)
  clear hd0 hd1 hd2 hd3 hbt hb
  go_wp2_with fail
  refine(lAlive _).mono ?_
  rintro e w' ⟨rfl,rfl⟩
  go_wp2_with fail
  go_ret
  exact⟨rfl,HL8.out.b⟩
 |true=>
  have HDW:Hid (lV T ⟨#[32]⟩=(T,m0)):=(uE HOK.out).trans (XJ aH sR p5 T)
  have hXo:=CA aH sR p5 s HOK.out
  have hXs:=X3 aH sR p5 T s
  rw[show cH aH sR p5 T s=(X,a) from(uE HOK.out).symm.trans HD.out] at hXo hXs
  have HXO:Hid (dP X=true):=hXo.1
  obtain⟨q,hq⟩:∃q,((cJ a).toList==[111,107])=q:=⟨_,rfl⟩
  have HXS:Hid (q=false→X=T):=fun h=>by
   rcases hXs with e|e
   ·rw[←hq,show a=vI from e,lit_is (show cJ vI=⟨[111,107].toArray⟩ from rfl)] at h
    cases h
   ·exact e
  clear hXo hXs
  obtain⟨hc0,hc1,hc2,hc3⟩:=HL7.out.x.cells
  go_wp2_with fail
  refine(iTalkLine_p HDW HL7.out.x.t HS.out (show(⟨#[32]⟩:ByteArray).size≤1048576 by decide) (HGW.out.below HL7.out.b)).mono ?_
  rintro e w8 ⟨A9,n9,c9,B9,m9,d9,rfl,ht,hb⟩
  clear hc0 hc1 hc2 hc3
  obtain⟨y,hy⟩:∃y,cJ m0=y:=⟨_,rfl⟩
  have hyw:(y.toList==[119,104,97,116])=true:=by rw[←hy];exact lit_is rfl
  rw[hy]
  clear hy
  go_upto_region 11 with fail
  obtain⟨h9,W8,hh9,hW8,HL8,HY8,hbW⟩:=put_talk HL7.out ht hb
  have HZ8:=zH (HZ7.out.below hbW.out)
  rw[hW8]
  try rw[hh9]
  clear hW8 hh9 HL7 HZ7 ht hb hbW
  obtain⟨hd0,hd1,hd2,hd3⟩:=HZ8.out.cells
  have HTX:=zH (J3 X A5 B5 n5 c5 m5 d5 _ HZ8.out.t HSX.out)
  rw[HXO.out] at HTX
  go_wp2_with fail
  refine HTX.out.mono ?_
  rintro e w9 ⟨rfl,hb⟩
  have HL9:=zH (HL8.out.below hb)
  have HZ9:=zH (HZ8.out.below hb)
  have HY9:=zH (HY8.out.below hb)
  clear hd0 hd1 hd2 hd3 hb HL8 HZ8 HY8 HTX
  cases q with
  |true=>
   obtain⟨hc0,hc1,hc2,hc3⟩:=HL9.out.x.cells
   obtain⟨he0,he1,he2,he3⟩:=HY9.out.cells
   go_wp2_with fail
   refine(XX T T A9 B9 A1 B1 n9 c9 m9 d9 n1 c1 m1 d1 _ HY9.out.t HL9.out.x.t HS.out HS.out).mono ?_
   rintro e w11 ⟨⟨b,rfl,hbt⟩,hb⟩
   obtain rfl:b=true:=hbt rfl
   have HBE:=zH (HL9.out.below hb).b
   clear hb hbt hc0 hc1 hc2 hc3 he0 he1 he2 he3
   go_wp2_with fail
   go_ret
   exact⟨rfl,HBE.out⟩
  |false=>
   have HXT:=zH (HXS.out rfl)
   obtain⟨hc0,hc1,hc2,hc3⟩:=HL9.out.x.cells
   obtain⟨hd0,hd1,hd2,hd3⟩:=HZ9.out.cells
   go_wp2_with fail
   refine(XX X T A5 B5 A1 B1 n5 c5 m5 d5 n1 c1 m1 d1 _ HZ9.out.t HL9.out.x.t HSX.out HS.out).mono ?_
   rintro e w10 ⟨⟨b,rfl,hbt⟩,hb⟩
   obtain rfl:b=true:=hbt HXT.out
   have HL10:=zH (HL9.out.below hb)
   have HY10:=zH (HY9.out.below hb)
   clear hb hbt hc0 hc1 hc2 hc3 hd0 hd1 hd2 hd3
   obtain⟨hc0,hc1,hc2,hc3⟩:=HL10.out.x.cells
   obtain⟨he0,he1,he2,he3⟩:=HY10.out.cells
   go_wp2_with fail
   refine(XX T T A9 B9 A1 B1 n9 c9 m9 d9 n1 c1 m1 d1 _ HY10.out.t HL10.out.x.t HS.out HS.out).mono ?_
   rintro e w11 ⟨⟨b,rfl,hbt⟩,hb⟩
   obtain rfl:b=true:=hbt rfl
   have HBE:=zH (HL10.out.below hb).b
   clear hb hbt hc0 hc1 hc2 hc3 he0 he1 he2 he3
   go_wp2_with fail
   go_ret
   exact⟨rfl,HBE.out⟩
end Go.Proofs.YtfhjcacfchkdpaaGreatDoor

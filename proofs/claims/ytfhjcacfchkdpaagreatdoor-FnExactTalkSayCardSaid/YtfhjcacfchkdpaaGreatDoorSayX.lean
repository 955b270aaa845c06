/-
  Chapter 9, by the door: the exact law of TalkSay.
-/
import Derived.Test.YtfhjcacfchkdpaaGreatDoorSayB
import Derived.Deep.Cut
import Derived.Deep.CutRange
import Derived.Deep.CutBlock
import Derived.Test.YtfhjcacfchkdpaaGreatDoorU47
set_option maxRecDepth 100000
set_option maxHeartbeats 32000000
namespace Go.Proofs.YtfhjcacfchkdpaaGreatDoor
open Go.RowKit
def OwnSays(X:aL)(an:List ByteArray)(W:World)(e:Ending)(w' :World):Prop:=∃A n c B m d vs L l,e= .returned (.tuple #[.agg #[.int .i64 X.things,.int .i64 X.now.known,.slice A n c,.slice B m d],.slice L an.length l])∧mE w' W.heap.size (.slice A n c) (.slice B m d) vs X.now.op X.past∧aK w' W.heap.size (.slice L an.length l) an∧ApV (.slice L an.length l) (.slice A n c) vs∧Below W.heap.size W w'
theorem iTalkSay_own{T X:aL}{A B L:Option Addr}{n c m d lc:Nat}{ls an:List ByteArray}{w:World}(h:Hid (sayTo T ls=(X,an)))(hT:bN w T A n c B m d)(hs:cD T)(hll:ls.length≤1048576)(hL:a7 w L ls)(hls:∀x∈ls,x.size≤1048576)(hg:fA w):
  Calls Tryz.prog 25 #[.agg #[.int .i64 T.things,.int .i64 T.now.known,.slice A n c,.slice B m d],.slice L ls.length lc] w (OwnSays X an w):=by
 have:=iTalkSay T A B L n c m d ls.length lc ls w hT hs rfl hll hL hls hg
 rw[h.out] at this
 refine this.mono ?_
 rintro e w' ⟨o,p,vs,v,rfl,ho,hp,hap,hv,hav,hb⟩
 obtain⟨A',c',B',d',rfl,rfl,_⟩:=qO ho hp
 obtain⟨L',l',rfl,_⟩:=hv.form
 exact⟨A',_,c',B',_,d',vs,L',l',rfl,⟨ho,hp,hap⟩,hv,hav,hb⟩
theorem own_row{w:World}{lo l:Nat}{L:Option Addr}{an:List ByteArray}(h:aK w lo (.slice L an.length l) an):a7 w L an:=by
 obtain⟨_,_,e,_,_,h1,_⟩:=h.form
 cases e;exact h1
theorem lSzStr_b(A:Option Addr)(n c:Nat)(xs:List ByteArray)(l:Int)(w:World)(hn:n=xs.length)(hc:n≤c)(hm:c≤maxLen)(hA:a7 w A xs)(hs:∀s∈xs,s.size≤maxLen)(hl0:0≤l)(hl1:l≤1048576):
  Calls Tryz.prog 33 #[.slice A n c,.int .i64 l] w fun e w' =>∃q:Int,e= .returned (.int .i64 q)∧q≤l∧(0≤q→n≤1048576∧∀d∈xs,d.size≤1048576)∧-1≤q∧Below w.heap.size w w' :=by
 refine(LY A n c xs l w hn hc hm hA hs hl0 hl1).mono ?_
 rintro e w' ⟨⟨q,h1,h2,h3,h4⟩,rfl⟩
 exact⟨q,h1,h2,h3,h4,Below.refl _ _⟩
theorem lEqStr_b(A B:Option Addr)(c d:Nat)(xs:List ByteArray)(w:World)(hl:xs.length≤1048576)(hA:a7 w A xs)(hB:a7 w B xs):
  Calls Tryz.prog 35 #[.slice A xs.length c,.slice B xs.length d] w fun e w' =>e= .returned (.bool true)∧Below w.heap.size w w' :=by
 refine(KO A B xs.length xs.length c d xs xs w rfl rfl hl hl hA hB).mono ?_
 rintro e w' ⟨rfl,q,rfl⟩
 exact⟨by rw[decide_eq_true rfl],aE (Below.refl _ _) q⟩
theorem lMarkTalkS(t q:Int)(os:List ByteArray)(xs:List (St ByteArray))(A B:Option Addr)(n c m d lo:Nat)(vs:List (Int×Value))(w:World)(hn:n=os.length)(hm:m=xs.length)(hl:n≤1048576)(hl2:m≤1048576)(hs:∀x∈xs,x.op.length≤1048576)(hO:mE w lo (.slice A n c) (.slice B m d) vs os xs):
  Calls Tryz.prog 31 #[.agg #[.int .i64 t,.int .i64 q,.slice A n c,.slice B m d],.int .i64 1] w fun e w' =>e= .returned (.int .i64 ((1+n+f8 (dV xs):Nat):Int))∧aK w' lo (.slice A n c) (iM 1 n)∧(∃us,aY 30 w' lo (.slice B m d) us (j4 (1+n) (dV xs))∧us.map Prod.snd=vs.map Prod.snd)∧d7 (BZ (.slice A n c) (.slice B m d) vs) w w' :=by
 subst hm
 obtain⟨ho,hx,hap⟩:=hO
 have HX0:Hid (aD (w.alloc (.cells #[.int .i64 t,.int .i64 q,.slice A n c,.slice B xs.length d] 33)) w.heap.size 33 [.int .i64 t,.int .i64 q,.slice A n c,.slice B xs.length d]):=aD.new w _ [.int .i64 t,.int .i64 q,.slice A n c,.slice B xs.length d]
 have HB:Hid (Below w.heap.size w (w.alloc (.cells #[.int .i64 t,.int .i64 q,.slice A n c,.slice B xs.length d] 33))):=(Below.refl _ _).alloc (Nat.le_refl _) _
 have HM:=zH (MN lo q A n c os 1 _ hn hl (Nat.le_refl _) (by omega) (ho.below HB.out))
 rw[show((1:Nat):Int)=1 from rfl] at HM
 have HO:=zH ho
 have HX:=zH hx
 have HAP:=zH hap
 have HS:=zH hs
 clear ho hx hap hs hn
 go_enter Tryz.func31,Tryz.ntmps31
 go_wp2_with fail
 refine HM.out.mono ?_
 rintro e w1 ⟨rfl,ho,ht⟩
 have HT1:=zH ((d7.of_below (P:=fun b=>(Value.slice A n c).ownBlock=some b) HB.out).trans ht)
 have HX1:=zH (HX.out.turns HT1.out (fun k e1 e2=>wR HO.out HX.out HAP.out e2 (.inl e1)) (fun u hu k e1 e2=>wR HO.out HX.out HAP.out e2 (.inr ⟨_,List.mem_map.2 ⟨u,hu,rfl⟩,e1⟩)))
 have HBX:=zH (HX0.out.turns ht (fun e2=>by have:=(HO.out.lt e2).2;omega))
 have HO1:=zH ho
 have hc3:=HBX.out.cell (i:=3) (v:= .slice B xs.length d) rfl
 have HM2:=zH (IL lo B xs.length d vs xs (1+n) w1 rfl hl2 HS.out (by omega) (by omega) HX1.out HAP.out.2)
 clear ho ht HX0 HM
 go_wp2_with fail
 refine HM2.out.mono ?_
 rintro e w2 ⟨rfl,⟨us,hus,hsn⟩,ht⟩
 have HF:Hid (aK w2 lo (.slice A n c) (iM 1 n)∧d7 (BZ (.slice A n c) (.slice B xs.length d) vs) w w2):=⟨HO1.out.turns ht (fun k e1 e2=>wR HO.out HX.out HAP.out e1 e2),(HT1.out.weak fun k h=> .inl h).trans (ht.weak fun k h=> .inr h)⟩
 have HU:=zH (And.intro hus hsn)
 clear ht hus hsn hc3
 go_wp2_with fail
 go_ret
 exact⟨rfl,HF.out.1,⟨us,HU.out⟩,HF.out.2⟩
theorem ans_apart{w:World}{lo base:Nat}{v o p:Value}{vs:List (Int×Value)}{an os:List ByteArray}{xs:List (St ByteArray)}(hv:aK w base v an)(h:mE w lo o p vs os xs)(ha:ApV v o vs){k:Nat}(hk:v.ownBlock=some k):¬BZ o p vs k:=by
 rintro(e|e|⟨u,hu,e⟩)
 ·exact(ha k hk).1 e
 ·rcases eC hv h.2.1.row (by decide) with h1|h1
  ·rw[h1] at hk;cases hk
  ·exact h1 (hk.trans e.symm)
 ·obtain⟨x,hx,rfl⟩:=List.mem_map.1 hu
  exact(ha k hk).2 x hx e
theorem marks_stay{w w' :World}{lo base n c m d:Nat}{A B:Option Addr}{v:Value}{us vs:List (Int×Value)}{an os:List ByteArray}{xs:List (St ByteArray)}(hv:aK w base v an)(ho:aK w lo (.slice A n c) os)(hx:aY 30 w lo (.slice B m d) us xs)(hs:us.map Prod.snd=vs.map Prod.snd)(ha:ApV v (.slice A n c) vs)(hg:w.grownBy w' v.ownBlock):
  aK w' lo (.slice A n c) os∧aY 30 w' lo (.slice B m d) us xs:=by
 have ht:=d7.of_grown (P:=fun b=>v.ownBlock=some b) hg (fun b e=>e)
 refine⟨ho.turns ht (fun k h1 h2=>(ha k h2).1 h1),hx.turns ht (fun k h1 h2=> ?_) (fun u hu k h1 h2=> ?_)⟩
 ·rcases eC hv hx.row (by decide) with h3|h3
  ·rw[h3] at h2;cases h2
  ·exact h3 (h2.trans h1.symm)
 ·have hm:u.2∈vs.map Prod.snd:=by rw[←hs];exact List.mem_map.2 ⟨u,hu,rfl⟩
  obtain⟨x,hx2,e⟩:=List.mem_map.1 hm
  exact(ha k h2).2 x hx2 (by rw[e];exact h1)
set_option linter.unusedSimpArgs false in
theorem wExactTalkSay(T:aL)(A B L:Option Addr)(n c m d ln lc:Nat)(ds:List ByteArray)(w:World)(hT:bN w T A n c B m d)(hs:QC T)(hln:ln=ds.length)(hlc:ln≤lc)(hlm:lc≤maxLen)(hL:a7 w L ds)(hds:∀x∈ds,x.size≤maxLen)(hg:fA w):
  Calls Tryz.prog 7 #[.agg #[.int .i64 T.things,.int .i64 T.now.known,.slice A n c,.slice B m d],.slice L ln lc] w fun e w' =>e= .returned (.bool true)∧Below w.heap.size w w' :=by
 subst hln
 have HX:Hid (aD (w.alloc (.cells #[.int .i64 T.things,.int .i64 T.now.known,.slice A n c,.slice B m d] 57)) w.heap.size 57 [.int .i64 T.things,.int .i64 T.now.known,.slice A n c,.slice B m d]):=aD.new w _ [.int .i64 T.things,.int .i64 T.now.known,.slice A n c,.slice B m d]
 have HB0:=zH (oA w (.cells #[.int .i64 T.things,.int .i64 T.now.known,.slice A n c,.slice B m d] 57))
 have HT0:=zH (hT.below HB0.out)
 have HL0:=zH (hL.below HB0.out)
 have HG0:=zH (hg.below HB0.out)
 have HBG:=zH hs
 have HDG:=zH hds
 have HLC:=zH (And.intro hlc hlm)
 clear hT hs hL hds hlc hlm hg
 go_enter Tryz.func7,Tryz.ntmps7
 go_upto_region 2 with fail
 obtain⟨W0,hW0⟩:∃W,w.alloc (.cells #[.int .i64 T.things,.int .i64 T.now.known,.slice A n c,.slice B m d] 57)=W:=⟨_,rfl⟩
 rw[hW0] at HX HB0 HT0 HL0 HG0⊢
 clear hW0
 have HQ:Hid (∀W,Below W0.heap.size W0 W→(W.cell? ⟨w.heap.size,0,none⟩=some (.int .i64 T.things)∧W.cell? ⟨w.heap.size,1,none⟩=some (.int .i64 T.now.known)∧W.cell? ⟨w.heap.size,2,none⟩=some (.slice A n c)∧W.cell? ⟨w.heap.size,3,none⟩=some (.slice B m d))):=fun W hb=>⟨(HX.out.below hb).cell rfl,(HX.out.below hb).cell rfl,(HX.out.below hb).cell rfl,(HX.out.below hb).cell rfl⟩
 obtain⟨hc0,hc1,hc2,hc3⟩:=HQ.out W0 (Below.refl _ _)
 go_wp2_with fail
 refine(UE T A B n c m d 1048576 W0 HT0.out HBG.out (by omega) (by omega)).mono ?_
 rintro e w1 ⟨⟨q,rfl,hq1,hq2,hq3⟩,hb⟩
 have HB1:=zH hb
 have HQQ:=zH hq2
 clear hb hq2 hc0 hc1 hc2 hc3
 by_cases hq:q<0
 ·have hd:decide (q<0)=true:=decide_eq_true hq
  go_wp2_with fail
  go_ret
  exact⟨rfl,aA HB0.out HB1.out⟩
 have hd:decide (q<0)=false:=decide_eq_false hq
 have HS:=zH (HQQ.out (by omega))
 go_wp2_with fail
 refine(lSzStr_b L ds.length lc ds q w1 rfl HLC.out.1 HLC.out.2 (HL0.out.below HB1.out) HDG.out (by omega) hq1).mono ?_
 rintro e w2 ⟨q2,rfl,hr1,hr2,hr3,hb⟩
 have HB2:=zH (aA HB1.out hb)
 have HRR:=zH hr2
 clear hb hr2 hd
 by_cases hqq:q2<0
 ·have hd:decide (q2<0)=true:=decide_eq_true hqq
  go_wp2_with fail
  go_ret
  exact⟨rfl,aA HB0.out HB2.out⟩
 have hd:decide (q2<0)=false:=decide_eq_false hqq
 have hlen:=(HRR.out (by omega)).1
 have HSZ:=zH (HRR.out (by omega)).2
 obtain⟨P,hP⟩:∃P,sayTo T ds=P:=⟨_,rfl⟩
 have HSX:Hid (cD P.1):=by unfold Hid;rw[←hP];exact(sayTo_small T ds).1
 have HAN:Hid (P.2.length≤1048576):=by unfold Hid;rw[←hP];have:=(sayTo_small T ds).2;omega
 obtain⟨X,an⟩:=P
 dsimp only at HSX HAN
 have HD:=zH hP
 have HTO:Hid (∀W,Below W0.heap.size W0 W→Calls Tryz.prog 29 #[.agg #[.int .i64 T.things,.int .i64 T.now.known,.slice A n c,.slice B m d]] W (OW T W)):=fun W hb=>KD (HT0.out.below hb) HS.out
 have HTD:Hid (∀W,Below W0.heap.size W0 W→Calls Tryz.prog 34 #[.slice L ds.length lc] W fun e w' =>∃A2 c2,e= .returned (.slice A2 ds.length c2)∧a7 w' A2 ds∧aK w' W.heap.size (.slice A2 ds.length c2) ds∧Below W.heap.size W w'):=fun W hb=>
  (LZ L ds.length lc ds W rfl hlen (HL0.out.below hb)).mono fun e w' ⟨v,he,ho,hb2⟩=>by
   obtain⟨A2,c2,rfl,_⟩:=ho.form
   exact⟨A2,c2,he,own_row ho,ho,hb2⟩
 clear hP
 obtain⟨hc0,hc1,hc2,hc3⟩:=HQ.out w2 HB2.out
 go_wp2_with fail
 refine(HTO.out _ HB2.out).mono ?_
 rintro e wa ⟨Aa,na,ca,Ba,ma,da,vsa,mida,rfl,hia,_,hb⟩
 have HBa:=zH (aA HB2.out hb)
 have HIa:=zH hia.at_
 clear hb hia hc0 hc1 hc2 hc3 hd
 go_wp2_with fail
 refine(HTD.out _ HBa.out).mono ?_
 rintro e wb ⟨Ab,cb,rfl,hrb,_,hb⟩
 have HBb:=zH (aA HBa.out hb)
 have HIb:=zH (HIa.out.below hb)
 have HRb:=zH hrb
 clear hb hrb
 go_wp2_with fail
 refine(sTalkSay_p HD HIb.out HS.out hlen HRb.out HSZ.out).mono ?_
 rintro e wt ⟨A5,n5,c5,B5,m5,d5,L5,l5,rfl,hin,ho5,hb⟩
 have HBt:=zH (aA HBb.out hb)
 go_upto_region 9 with fail
 have hZ:=DX.new hin.at_
 have hbel:=oA wt (.cells #[.int .i64 X.things,.int .i64 X.now.known,.slice A5 n5 c5,.slice B5 m5 d5] 33)
 have HB3:=zH (aA HBt.out hbel)
 obtain⟨h6,hh6⟩:∃h6,wt.heap.size=h6:=⟨_,rfl⟩
 obtain⟨W3,hW3⟩:∃W,wt.alloc (.cells #[.int .i64 X.things,.int .i64 X.now.known,.slice A5 n5 c5,.slice B5 m5 d5] 33)=W:=⟨_,rfl⟩
 rw[hW3] at hZ HB3
 rw[hW3]
 rw[hh6] at hZ
 try rw[hh6]
 have HT6:Hid (∀W,Below W3.heap.size W3 W→a7 W L5 an):=fun W hb=>((own_row ho5).below hbel).below (by rw[hW3];exact hb)
 have H6:=zH hZ
 clear hZ hbel hW3 hh6 hin ho5 hb HBa HIa HBb HIb HRb HBt
 obtain⟨hc0,hc1,hc2,hc3⟩:=HQ.out W3 HB3.out
 go_wp2_with fail
 refine(HTO.out _ HB3.out).mono ?_
 rintro e w4 ⟨A8,n8,c8,B8,m8,d8,vs8,mid8,rfl,_,ho8,hb⟩
 have HO4:=zH ho8.ownA
 have HB4:=zH hb
 clear hc0 hc1 hc2 hc3 ho8 hb
 go_upto_region 10 with fail
 have hZ:=aD.new w4 33 [.int .i64 T.things,.int .i64 T.now.known,.slice A8 n8 c8,.slice B8 m8 d8]
 have hbel:=oA w4 (.cells #[.int .i64 T.things,.int .i64 T.now.known,.slice A8 n8 c8,.slice B8 m8 d8] 33)
 have HO5:=zH (HO4.out.below hbel)
 have HB5:=zH (aA HB4.out hbel)
 obtain⟨h8,hh8⟩:∃h8,w4.heap.size=h8:=⟨_,rfl⟩
 obtain⟨W5,hW5⟩:∃W,w4.alloc (.cells #[.int .i64 T.things,.int .i64 T.now.known,.slice A8 n8 c8,.slice B8 m8 d8] 33)=W:=⟨_,rfl⟩
 have hle:w4.heap.size≤W5.heap.size:=by rw[←hW5];exact hbel.size
 rw[hW5] at hZ HO5 HB5
 rw[hW5]
 rw[hh8] at hZ
 try rw[hh8]
 have HZ8:=zH hZ
 have HLT5:Hid (∀b,BZ (.slice A8 n8 c8) (.slice B8 m8 d8) vs8 b→W3.heap.size≤b∧b<W5.heap.size):=fun b hb=>CF HO5.out.1 HO5.out.2.1 hb
 have HL35:Hid (W3.heap.size≤W5.heap.size):=HB5.out.size
 clear hZ hbel hW5 hh8 HO4 HB4 hle
 have HB5W:=zH (aA HB3.out HB5.out)
 go_wp2_with fail
 refine(HTD.out _ HB5W.out).mono ?_
 rintro e w5 ⟨A1,c1,rfl,hr1',ho1,hb⟩
 have HRX:=zH hr1'
 have HOX:=zH ho1
 have HO5b:=zH (HO5.out.below hb)
 have HZ8b:=zH (HZ8.out.below hb)
 have HB5b:=zH (aA HB5.out hb)
 have HL5b:Hid (W5.heap.size≤w5.heap.size):=hb.size
 have HLX:Hid (∀b,(Value.slice A1 ds.length c1).ownBlock=some b→W5.heap.size≤b∧b<w5.heap.size):=fun b e=>ho1.lt e
 clear hr1' ho1 hb
 have hc0:=HZ8b.out.cell (i:=0) (v:= .int .i64 T.things) rfl
 have hc1:=HZ8b.out.cell (i:=1) (v:= .int .i64 T.now.known) rfl
 have hc2:=HZ8b.out.cell (i:=2) (v:= .slice A8 n8 c8) rfl
 have hc3:=HZ8b.out.cell (i:=3) (v:= .slice B8 m8 d8) rfl
 go_wp2_with fail
 refine(iTalkSay_own HD HO5b.out.at_ HS.out hlen HRX.out HSZ.out (HG0.out.below (aA HB3.out HB5b.out))).mono ?_
 rintro e w6 ⟨A9,n9,c9,B9,m9,d9,vs9,L9,l9,rfl,hown,hol,hal,hb⟩
 have HO6:=zH (HO5b.out.below hb)
 have HZ86:=zH (HZ8b.out.below hb)
 have HOX6:=zH (HOX.out.below hb)
 have HB56:=zH (aA HB5b.out hb)
 clear hc0 hc1 hc2 hc3
 go_upto_region 12 with fail
 have hZ:=aD.new w6 33 [.int .i64 X.things,.int .i64 X.now.known,.slice A9 n9 c9,.slice B9 m9 d9]
 have hbel:=oA w6 (.cells #[.int .i64 X.things,.int .i64 X.now.known,.slice A9 n9 c9,.slice B9 m9 d9] 33)
 have HG:=zH (hown.below hbel)
 have HGL:=zH (hol.below hbel)
 have HAL:=zH hal
 have HOB:=zH (HO6.out.below hbel)
 have HZB:=zH (HZ86.out.below hbel)
 have HOXB:=zH (HOX6.out.below hbel)
 have HB36:=zH (aA HB56.out hbel)
 obtain⟨h9,hh9⟩:∃h9,w6.heap.size=h9:=⟨_,rfl⟩
 obtain⟨W6,hW6⟩:∃W,w6.alloc (.cells #[.int .i64 X.things,.int .i64 X.now.known,.slice A9 n9 c9,.slice B9 m9 d9] 33)=W:=⟨_,rfl⟩
 rw[hW6] at hZ HG HGL HOB HZB HOXB HB36
 rw[hW6]
 rw[hh9] at hZ
 try rw[hh9]
 have H9:=zH hZ
 clear hZ hbel hW6 hh9 hown hol hal hb HO6 HZ86 HOX6 HB56 HO5b HZ8b HB5b HOX
 have H66:=zH (H6.out.below HB36.out)
 have hc0:=H9.out.cell (i:=0) (v:= .int .i64 X.things) rfl
 have hc1:=H9.out.cell (i:=1) (v:= .int .i64 X.now.known) rfl
 have hc2:=H9.out.cell (i:=2) (v:= .slice A9 n9 c9) rfl
 have hc3:=H9.out.cell (i:=3) (v:= .slice B9 m9 d9) rfl
 obtain⟨hd0,hd1,hd2,hd3⟩:=H66.out.cells
 go_wp2_with fail
 refine(xT X A9 B9 A5 B5 n9 c9 m9 d9 n5 c5 m5 d5 _ HG.out.at_ H66.out.t HSX.out).mono ?_
 rintro e wz ⟨rfl,hbz⟩
 have HGLz:=zH (HGL.out.below hbz)
 have HBz:=zH (aA HB36.out hbz)
 clear hc0 hc1 hc2 hc3 hd0 hd1 hd2 hd3
 go_wp2_with fail
 refine(lEqStr_b L9 L5 l9 l5 an _ HAN.out (own_row HGLz.out) (HT6.out _ HBz.out)).mono ?_
 rintro e w7 ⟨rfl,hb⟩
 have HGL7:=zH (HGLz.out.below hb)
 replace hb:=aA hbz hb
 have H97:=zH (H9.out.below hb)
 have HG7:=zH (HG.out.below hb)
 have HB37:=zH (aA HB36.out hb)
 have HO7:=zH (HOB.out.below hb)
 have HZ87:=zH (HZB.out.below hb)
 have HOX7:=zH (HOXB.out.below hb)
 clear hb hbz H66 HB36 H9 HG HOB HZB HOXB HGL HGLz HBz
 go_upto_region 14 with fail
 obtain⟨W7,hW7⟩:∃W,w7=W:=⟨_,rfl⟩
 rw[hW7] at H97 HG7 HGL7 HB37 HO7 HZ87 HOX7⊢
 clear hW7
 have HBU:Hid (∀W,Below W7.heap.size W7 W→Below W0.heap.size W0 W):=fun W hb=>aA (aA HB3.out HB37.out) hb
 have HQ13:Hid (∀W,Below W7.heap.size W7 W→(W.cell? ⟨h8,0,none⟩=some (.int .i64 T.things)∧W.cell? ⟨h8,1,none⟩=some (.int .i64 T.now.known)∧W.cell? ⟨h8,2,none⟩=some (.slice A8 n8 c8)∧W.cell? ⟨h8,3,none⟩=some (.slice B8 m8 d8))∧(W.cell? ⟨w.heap.size,0,none⟩=some (.int .i64 T.things)∧W.cell? ⟨w.heap.size,1,none⟩=some (.int .i64 T.now.known)∧W.cell? ⟨w.heap.size,2,none⟩=some (.slice A n c)∧W.cell? ⟨w.heap.size,3,none⟩=some (.slice B m d))):=fun W hb=>⟨⟨(HZ87.out.below hb).cell rfl,(HZ87.out.below hb).cell rfl,(HZ87.out.below hb).cell rfl,(HZ87.out.below hb).cell rfl⟩,HQ.out W (HBU.out W hb)⟩
 have HE13:Hid (∀W A6 n6 c6 B6 m6 d6,Below W7.heap.size W7 W→bN W T A6 n6 c6 B6 m6 d6→Calls Tryz.prog 30 #[.agg #[.int .i64 T.things,.int .i64 T.now.known,.slice A8 n8 c8,.slice B8 m8 d8],.agg #[.int .i64 T.things,.int .i64 T.now.known,.slice A6 n6 c6,.slice B6 m6 d6]] W fun e w' =>e= .returned (.bool true)∧Below W.heap.size W w'):=fun W A6 n6 c6 B6 m6 d6 hb ht=>xT T A8 B8 A6 B6 n8 c8 m8 d8 n6 c6 m6 d6 W (HO7.out.below hb).at_ ht HS.out
 obtain⟨⟨hc0,hc1,hc2,hc3⟩,hd0,hd1,hd2,hd3⟩:=HQ13.out W7 (Below.refl _ _)
 go_cut [59] from 55 to 60 (fun s59 wx=>s59= .bool false∧Below W7.heap.size W7 wx)
 case first=>
  have HB:Hid (Below W7.heap.size W7 W7.drew):=aE (Below.refl _ _) 1
  refine wp_region_held_drew (S:=(fun w' =>(w'.cell? ⟨h8,0,none⟩=some (.int .i64 T.things)∧w'.cell? ⟨h8,1,none⟩=some (.int .i64 T.now.known)∧w'.cell? ⟨h8,2,none⟩=some (.slice A8 n8 c8)∧w'.cell? ⟨h8,3,none⟩=some (.slice B8 m8 d8))∧(w'.cell? ⟨w.heap.size,0,none⟩=some (.int .i64 T.things)∧w'.cell? ⟨w.heap.size,1,none⟩=some (.int .i64 T.now.known)∧w'.cell? ⟨w.heap.size,2,none⟩=some (.slice A n c)∧w'.cell? ⟨w.heap.size,3,none⟩=some (.slice B m d)))) (by kernel_rfl) ?_ (fun hHeld=> ?_)
  ·exact HQ13.out _ HB.out
  obtain⟨wd,hwd⟩:∃wd,W7.drew=wd:=⟨_,rfl⟩
  rw[hwd] at HB hHeld⊢
  clear hwd
  refine zT 0 (h:=?_)
  try simp only[Act.put,zS]
  refine zT 1 (h:=?_)
  try simp only[Act.put,zS]
  refine wpAnyH_ready (rs:=[2]) (by kernel_rfl) (by simp) ?_
  refine AllReadyH.cons rfl (fun K hK=> ?_) AllReadyH.nil
  (go_simp;go_at_call 29;refine(HTO.out _ (HBU.out _ HB.out)).mono ?_;rintro e wA ⟨A6,n6,c6,B6,m6,d6,vs6,mid6,rfl,hi6,_,hb⟩;replace HB:=zH (aA HB.out hb);have HI:=zH hi6.at_;clear hb hi6)
  refine hK.out _ _ ?_ (fun hHeld=> ?_)
  ·exact HQ13.out _ HB.out
  clear hK K
  try simp only[Act.put,zS]
  refine wpAnyH_ready (rs:=[3]) (by kernel_rfl) (by simp) ?_
  refine AllReadyH.cons rfl (fun K hK=> ?_) AllReadyH.nil
  (go_simp;go_at_call 30;refine(HE13.out _ _ _ _ _ _ _ HB.out HI.out).mono ?_;rintro e wE ⟨rfl,hb⟩;replace HB:=zH (aA HB.out hb);clear hb)
  refine hK.out _ _ ?_ (fun hHeld=> ?_)
  ·exact HQ13.out _ HB.out
  clear hK K
  try simp only[Act.put,zS]
  refine zT 4 (h:=?_)
  try simp only[Act.put,zS]
  refine wpAnyH_done (by kernel_rfl) ?_ _
  go_wp2_with fail
  go_meet
  exact⟨rfl,HB.out⟩
 case rest=>
  obtain⟨rfl,hbw⟩:=hcut
  obtain⟨W8,rfl⟩:∃W,W=wc:=⟨_,rfl⟩
  have H98:=zH (H97.out.below hbw)
  have HG8:=zH (HG7.out.below hbw)
  have HGL8:=zH (HGL7.out.below hbw)
  have HO8:=zH (HO7.out.below hbw)
  have HZ88:=zH (HZ87.out.below hbw)
  have HB38:=zH (aA HB37.out hbw)
  have HOX8:=zH (HOX7.out.below hbw)
  clear hbw hc0 hc1 hc2 hc3 hd0 hd1 hd2 hd3 HBU HQ13 HE13 H97 HG7 HGL7 HO7 HZ87 HB37 HOX7
  go_wp2_with fail
  refine(HTD.out _ (aA HB3.out HB38.out)).mono ?_
  rintro e wq ⟨Aq,cq,rfl,hrq,_,hb⟩
  replace H98:=zH (H98.out.below hb)
  replace HG8:=zH (HG8.out.below hb)
  replace HGL8:=zH (HGL8.out.below hb)
  replace HO8:=zH (HO8.out.below hb)
  replace HZ88:=zH (HZ88.out.below hb)
  replace HB38:=zH (aA HB38.out hb)
  replace HOX8:=zH (HOX8.out.below hb)
  have HRQ:=zH hrq
  clear hrq hb
  go_wp2_with fail
  refine(lEqStr_b A1 Aq c1 cq ds _ hlen (own_row HOX8.out) HRQ.out).mono ?_
  rintro e wr ⟨rfl,hb⟩
  replace H98:=zH (H98.out.below hb)
  replace HG8:=zH (HG8.out.below hb)
  replace HGL8:=zH (HGL8.out.below hb)
  replace HO8:=zH (HO8.out.below hb)
  replace HZ88:=zH (HZ88.out.below hb)
  replace HB38:=zH (aA HB38.out hb)
  replace HOX8:=zH (HOX8.out.below hb)
  clear hb HRQ
  have hc0:=HZ88.out.cell (i:=0) (v:= .int .i64 T.things) rfl
  have hc1:=HZ88.out.cell (i:=1) (v:= .int .i64 T.now.known) rfl
  have hc2:=HZ88.out.cell (i:=2) (v:= .slice A8 n8 c8) rfl
  have hc3:=HZ88.out.cell (i:=3) (v:= .slice B8 m8 d8) rfl
  have HMK:=zH (DO T.things T.now.known T.now.op T.past A8 B8 n8 c8 m8 d8 W3.heap.size vs8 _ HO8.out.at_.hn HO8.out.at_.pn (by rw[HO8.out.at_.hn];exact HS.out.op) (by rw[HO8.out.at_.pn];exact HS.out.past) (fun x hx=>(HS.out.ops x hx).1) HO8.out)
  obtain⟨y,hy⟩:∃y:Nat,1+n8+f8 (dV T.past)=y:=⟨_,rfl⟩
  rw[hy] at HMK
  have hn8l:n8≤1048576:=by rw[HO8.out.at_.hn];exact HS.out.op
  have hcnt:f8 (dV T.past)≤1099512676352:=by
   have:=CW (ns:=dV T.past) (by rw[oO];exact HS.out.past) (zI fun x hx=>(HS.out.ops x hx).1) (dV T.past).length
   rwa [List.take_length] at this
  have hy1:1≤y:=by omega
  have hy2:y≤35184372088832:=by omega
  clear hy hcnt hn8l
  go_wp2_with fail
  refine HMK.out.mono ?_
  rintro e w9 ⟨rfl,_,_,ht⟩
  have HB39:=zH (ht.below HB38.out HB38.out.size (fun b hb=>(HLT5.out b hb).1))
  have H99:=zH (H98.out.turns ht (GU HO8.out H98.out (by decide) (by decide)))
  have HG9:=zH (HG8.out.turns ht (fun b h1 h2=>by have a1:=(CF HG8.out.1 HG8.out.2.1 h1).1;have a2:=(HLT5.out b h2).2;have a3:=HL5b.out;omega))
  have HGL9:=zH (HGL8.out.turns ht (fun b h1 h2=>by have a1:=(HGL8.out.lt h1).1;have a2:=(HLT5.out b h2).2;have a3:=HL5b.out;omega))
  have HOX9:=zH (HOX8.out.turns ht (fun b h1 h2=>by have a1:=(HLX.out b h1).1;have a2:=(HLT5.out b h2).2;omega))
  clear ht hc0 hc1 hc2 hc3 H98 HG8 HGL8 HO8 HZ88 HB38 HMK HOX8
  have HMD:=zH (vE W5.heap.size A1 ds.length c1 ds y _ rfl hlen hy1 hy2 HOX9.out)
  obtain⟨y2,hy2e⟩:∃y2:Nat,y+ds.length=y2:=⟨_,rfl⟩
  rw[hy2e] at HMD
  clear hy2e hy1 hy2
  have hyn:decide ((y2:Int)<0)=false:=decide_eq_false (by omega)
  go_wp2_with fail
  refine HMD.out.mono ?_
  rintro e wm ⟨rfl,_,hgr⟩
  have ht:=d7.of_grown (P:=fun b=>(Value.slice A1 ds.length c1).ownBlock=some b) hgr (fun b e=>e)
  replace HB39:=zH (ht.below HB39.out HB39.out.size (fun b hb=>by have a1:=(HLX.out b hb).1;have a2:=HL35.out;omega))
  replace H99:=zH (H99.out.turns ht (fun e=>iP H99.out HOX9.out (by decide) _ e rfl))
  replace HG9:=zH (HG9.out.turns ht (fun b h1 h2=>by have a1:=(CF HG9.out.1 HG9.out.2.1 h1).1;have a2:=(HLX.out b h2).2;omega))
  replace HGL9:=zH (HGL9.out.turns ht (fun b h1 h2=>by have a1:=(HGL9.out.lt h1).1;have a2:=(HLX.out b h2).2;omega))
  have H69:=zH (H6.out.below HB39.out)
  clear ht hgr HMD HOX9
  have hc0:=H99.out.cell (i:=0) (v:= .int .i64 X.things) rfl
  have hc1:=H99.out.cell (i:=1) (v:= .int .i64 X.now.known) rfl
  have hc2:=H99.out.cell (i:=2) (v:= .slice A9 n9 c9) rfl
  have hc3:=H99.out.cell (i:=3) (v:= .slice B9 m9 d9) rfl
  obtain⟨hd0,hd1,hd2,hd3⟩:=H69.out.cells
  go_wp2_with fail
  refine(xT X A9 B9 A5 B5 n9 c9 m9 d9 n5 c5 m5 d5 _ HG9.out.at_ H69.out.t HSX.out).mono ?_
  rintro e wy ⟨rfl,hbz⟩
  have HGLz:=zH (HGL9.out.below hbz)
  have HBz:=zH (aA HB39.out hbz)
  clear hc0 hc1 hc2 hc3 hd0 hd1 hd2 hd3
  go_wp2_with fail
  refine(lEqStr_b L9 L5 l9 l5 an _ HAN.out (own_row HGLz.out) (HT6.out _ HBz.out)).mono ?_
  rintro e w10 ⟨rfl,hb⟩
  have HGL10:=zH (HGLz.out.below hb)
  replace hb:=aA hbz hb
  have H910:=zH (H99.out.below hb)
  have HG10:=zH (HG9.out.below hb)
  have HB310:=zH (aA HB39.out hb)
  clear hb hbz H99 HG9 HB39 H69 HGL9 HGLz HBz
  have hc0:=H910.out.cell (i:=0) (v:= .int .i64 X.things) rfl
  have hc1:=H910.out.cell (i:=1) (v:= .int .i64 X.now.known) rfl
  have hc2:=H910.out.cell (i:=2) (v:= .slice A9 n9 c9) rfl
  have hc3:=H910.out.cell (i:=3) (v:= .slice B9 m9 d9) rfl
  have hn9:=HG10.out.at_.hn
  have hm9:=HG10.out.at_.pn
  have hn9l:n9≤1048576:=by rw[hn9];exact HSX.out.op
  have hm9l:m9≤1048576:=by rw[hm9];exact HSX.out.past
  have HM9:Hid (m9=(dV X.past).length):=by unfold Hid;rw[oO];exact hm9
  have HMK:=zH (lMarkTalkS X.things X.now.known X.now.op X.past A9 B9 n9 c9 m9 d9 w5.heap.size vs9 _ hn9 hm9 hn9l hm9l (fun x hx=>(HSX.out.ops x hx).1) HG10.out)
  obtain⟨z,hz⟩:∃z:Nat,1+n9+f8 (dV X.past)=z:=⟨_,rfl⟩
  have HZE:=zH hz
  rw[hz] at HMK
  clear hz hn9 hm9
  have hcnt:f8 (dV X.past)≤1099512676352:=by
   have:=CW (ns:=dV X.past) (by rw[oO];exact HSX.out.past) (zI fun x hx=>(HSX.out.ops x hx).1) (dV X.past).length
   rwa [List.take_length] at this
  have hz1:1≤z:=by have:=HZE.out;omega
  have hz2:z≤35184372088832:=by have:=HZE.out;omega
  clear hcnt
  have hzn:decide ((z:Int)<0)=false:=decide_eq_false (by omega)
  obtain⟨z2,hz2e⟩:∃z2:Nat,z+an.length=z2:=⟨_,rfl⟩
  have HZ2:=zH hz2e
  have hzn2:decide ((z2:Int)<0)=false:=decide_eq_false (by omega)
  have hzz:((z2:Int) != (z2:Int))=false:=by simp
  clear hz2e
  go_wp2_with fail
  refine HMK.out.mono ?_
  rintro e wv ⟨rfl,hos,⟨us,hox,hsn⟩,ht⟩
  have HBv:=zH (ht.below HB310.out HB310.out.size (fun b hb=>by have a1:=(CF HG10.out.1 HG10.out.2.1 hb).1;have a2:=HL35.out;have a3:=HL5b.out;omega))
  have H9v:=zH (H910.out.turns ht (GU HG10.out H910.out (by decide) (by decide)))
  have HGLv:=zH (HGL10.out.turns ht (fun b h1 h2=>ans_apart HGL10.out HG10.out HAL.out h1 h2))
  have HMS:=zH (And.intro hos (And.intro hox hsn))
  have HMG:=zH (vE w5.heap.size L9 an.length l9 an z wv rfl HAN.out hz1 hz2 HGLv.out)
  rw[HZ2.out] at HMG
  clear ht hos hox hsn hc0 hc1 hc2 hc3 HMK H910 HG10 HB310 HGL10
  go_wp2_with fail
  refine HMG.out.mono ?_
  rintro e w11 ⟨rfl,hom,hgr⟩
  obtain⟨hos,hox⟩:=marks_stay HGLv.out HMS.out.1 HMS.out.2.1 HMS.out.2.2 HAL.out hgr
  have ht:=d7.of_grown (P:=fun b=>(Value.slice L9 an.length l9).ownBlock=some b) hgr (fun b e=>e)
  have HB311:=zH (ht.below HBv.out HBv.out.size (fun b hb=>by have a1:=(HGLv.out.lt hb).1;have a2:=HL35.out;have a3:=HL5b.out;omega))
  have H911:=zH (H9v.out.turns ht (fun e=>iP H9v.out HGLv.out (by decide) _ e rfl))
  have HMA:Hid (a7 w11 A9 (iM 1 n9)):=RZ hos
  have HMB:Hid (b6 w11 B9 (j4 (1+n9) (dV X.past))):=SP hox
  have HML:Hid (a7 w11 L9 (iM z an.length)):=RZ hom
  clear ht hos hox hom hgr HMG HMS HGLv HBv H9v
  have HHE:Hid (∀W,a7 W A9 (iM 1 n9)→b6 W B9 (j4 (1+n9) (dV X.past))→Calls Tryz.prog 32 #[.agg #[.int .i64 X.things,.int .i64 X.now.known,.slice A9 n9 c9,.slice B9 m9 d9],.int .i64 1] W fun e w' =>e= .returned (.int .i64 (z:Int))∧Below W.heap.size W w'):=fun W h1 h2=>by
   have:=OR X.things X.now.known A9 B9 n9 c9 m9 d9 (dV X.past) W hn9l HM9.out hm9l (zI fun x hx=>(HSX.out.ops x hx).1) h1 h2
   rw[HZE.out] at this;exact this
  have HHL:Hid (∀W,a7 W L9 (iM z an.length)→Calls Tryz.prog 37 #[.slice L9 an.length l9,.int .i64 (z:Int)] W fun e w' =>e= .returned (.int .i64 (z2:Int))∧Below W.heap.size W w'):=fun W h1=>by
   have:=vR L9 an.length l9 z W hz1 hz2 HAN.out h1
   rw[HZ2.out] at this;exact this
  have hc0:=H911.out.cell (i:=0) (v:= .int .i64 X.things) rfl
  have hc1:=H911.out.cell (i:=1) (v:= .int .i64 X.now.known) rfl
  have hc2:=H911.out.cell (i:=2) (v:= .slice A9 n9 c9) rfl
  have hc3:=H911.out.cell (i:=3) (v:= .slice B9 m9 d9) rfl
  go_wp2_with fail
  refine(HHE.out _ HMA.out HMB.out).mono ?_
  rintro e wu ⟨rfl,hbz⟩
  clear hc0 hc1 hc2 hc3
  go_wp2_with fail
  refine(HHL.out _ (HML.out.below hbz)).mono ?_
  rintro e w12 ⟨rfl,hb⟩
  replace hb:=aA hbz hb
  have H912:=zH (H911.out.below hb)
  have HMA2:=zH (HMA.out.below hb)
  have HMB2:=zH (HMB.out.below hb)
  have HML2:=zH (HML.out.below hb)
  have HB312:=zH (aA HB311.out hb)
  clear hb hbz H911 HMA HMB HML HB311
  obtain⟨hc0,hc1,hc2,hc3⟩:=HQ.out w12 (aA HB3.out HB312.out)
  go_wp2_with fail
  refine(HTO.out _ (aA HB3.out HB312.out)).mono ?_
  rintro e wa ⟨Aa,na,ca,Ba,ma,da,vsa,mida,rfl,hia,_,hb⟩
  have HBX:=zH hb
  have HIa:=zH hia.at_
  clear hb hia hc0 hc1 hc2 hc3
  go_wp2_with fail
  refine(HTD.out _ (aA (aA HB3.out HB312.out) HBX.out)).mono ?_
  rintro e wb ⟨Ab,cb,rfl,hrb,_,hb⟩
  replace HBX:=zH (aA HBX.out hb)
  have HIb:=zH (HIa.out.below hb)
  have HRb:=zH hrb
  clear hb hrb HIa
  go_wp2_with fail
  refine(iTalkSay_p HD HIb.out HS.out hlen HRb.out HSZ.out (HG0.out.below (aA (aA HB3.out HB312.out) HBX.out))).mono ?_
  rintro e wt ⟨A14,n14,c14,B14,m14,d14,L14,l14,rfl,hin,ho14,hb⟩
  replace HBX:=zH (aA HBX.out hb)
  clear HIb HRb hb
  go_upto_region 36 with fail
  have hZ:=DX.new hin.at_
  have hbel:=oA wt (.cells #[.int .i64 X.things,.int .i64 X.now.known,.slice A14 n14 c14,.slice B14 m14 d14] 33)
  replace HBX:=zH (aA HBX.out hbel)
  obtain⟨h14,hh14⟩:∃h14,wt.heap.size=h14:=⟨_,rfl⟩
  obtain⟨W10,hW10⟩:∃W,wt.alloc (.cells #[.int .i64 X.things,.int .i64 X.now.known,.slice A14 n14 c14,.slice B14 m14 d14] 33)=W:=⟨_,rfl⟩
  rw[hW10] at hZ HBX
  rw[hW10]
  rw[hh14] at hZ
  try rw[hh14]
  have H14:=zH hZ
  have HL14:Hid (a7 W10 L14 an):=by have:=(own_row ho14).below hbel;rw[hW10] at this;exact this
  clear hZ hbel hW10 hh14 hin ho14
  have HB313:=zH (aA HB312.out HBX.out)
  have H913:=zH (H912.out.below HBX.out)
  have HMA3:=zH (HMA2.out.below HBX.out)
  have HMB3:=zH (HMB2.out.below HBX.out)
  have HML3:=zH (HML2.out.below HBX.out)
  have H613:=zH (H6.out.below HB313.out)
  clear HBX H912 HMA2 HMB2 HML2 HB312
  obtain⟨hc0,hc1,hc2,hc3⟩:=H14.out.cells
  obtain⟨hd0,hd1,hd2,hd3⟩:=H613.out.cells
  go_wp2_with fail
  refine(xT X A14 B14 A5 B5 n14 c14 m14 d14 n5 c5 m5 d5 _ H14.out.t H613.out.t HSX.out).mono ?_
  rintro e wx ⟨rfl,hbz⟩
  have HBz:=zH (aA HB313.out hbz)
  clear hc0 hc1 hc2 hc3 hd0 hd1 hd2 hd3
  go_wp2_with fail
  refine(lEqStr_b L14 L5 l14 l5 an _ HAN.out (HL14.out.below hbz) (HT6.out _ HBz.out)).mono ?_
  rintro e w13 ⟨rfl,hb⟩
  replace hb:=aA hbz hb
  have HML4:=zH (HML3.out.below hb)
  have H914:=zH (H913.out.below hb)
  have HMA4:=zH (HMA3.out.below hb)
  have HMB4:=zH (HMB3.out.below hb)
  have HB314:=zH (aA HB313.out hb)
  clear hb hbz H913 HMA3 HMB3 HML3 HB313 H14 H613 HL14 HBz
  have hc0:=H914.out.cell (i:=0) (v:= .int .i64 X.things) rfl
  have hc1:=H914.out.cell (i:=1) (v:= .int .i64 X.now.known) rfl
  have hc2:=H914.out.cell (i:=2) (v:= .slice A9 n9 c9) rfl
  have hc3:=H914.out.cell (i:=3) (v:= .slice B9 m9 d9) rfl
  go_wp2_with fail
  refine(HHE.out _ HMA4.out HMB4.out).mono ?_
  rintro e w14 ⟨rfl,hb⟩
  have HBE:=zH (aA (aA HB0.out HB3.out) (aA HB314.out hb))
  have HML5:=zH (HML4.out.below hb)
  clear hb hc0 hc1 hc2 hc3
  go_wp2_with fail
  refine(HHL.out _ HML5.out).mono ?_
  rintro e w15 ⟨rfl,hb⟩
  replace HBE:=zH (aA HBE.out hb)
  clear hb
  go_wp2_with fail
  go_ret
  exact⟨rfl,HBE.out⟩
end Go.Proofs.YtfhjcacfchkdpaaGreatDoor

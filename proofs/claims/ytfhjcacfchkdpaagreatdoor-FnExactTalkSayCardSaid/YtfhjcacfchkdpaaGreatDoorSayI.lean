/-
  Chapter 9, by the door: the program's TalkSay.
-/
import Derived.Test.YtfhjcacfchkdpaaGreatDoorSayA
set_option maxRecDepth 100000
set_option maxHeartbeats 32000000
namespace Go.Proofs.YtfhjcacfchkdpaaGreatDoor
open Go.RowKit
theorem iTalkSay(T:aL)(A B L:Option Addr)(n c m d ln lc:Nat)(ls:List ByteArray)(w:World)(hT:bN w T A n c B m d)(hs:cD T)(hn:ln=ls.length)(hll:ln≤1048576)(hL:a7 w L ls)(hls:∀x∈ls,x.size≤1048576)(hg:fA w):
  Calls Tryz.prog 25 #[.agg #[.int .i64 T.things,.int .i64 T.now.known,.slice A n c,.slice B m d],.slice L ln lc] w (SaysPost (sayTo T ls).1 (sayTo T ls).2 w):=by
 subst hn
 obtain⟨HX,HR,HB⟩:=vM w (.int .i64 T.things) (.int .i64 T.now.known) (.slice A n c) (.slice B m d)
 have HT:=zH (hT.below HB.out)
 have HL:=zH (hL.below HB.out)
 have HS:=zH hs
 have HLS:=zH hls
 have HGT:=zH hg
 have HLB:Hid (0<ls.length→∀ad,L=some ad→ad.block<w.heap.size):=fun hn ad e=>by
  obtain⟨b,off,e2,hlt,_⟩:=hL hn
  rw[e] at e2
  cases e2
  exact hlt
 obtain⟨z,hz⟩:∃z,dP T=z:=⟨_,rfl⟩
 have HZ:=zH hz
 clear hT hs hL hls hz hg
 obtain⟨P,hP⟩:∃P,sayTo T ls=P:=⟨_,rfl⟩
 have HP:=zH hP
 rw[hP]
 clear hP
 go_enter Tryz.func25,Tryz.ntmps25
 go_upto_region 1 with fail
 obtain⟨W0,hW0⟩:∃W,(w.alloc (.cells #[.int .i64 T.things,.int .i64 T.now.known,.slice A n c,.slice B m d] 33)).alloc (.cells #[.int .i64 0,.int .i64 0,.slice none 0 0,.slice none 0 0] 33)=W:=⟨_,rfl⟩
 rw[hW0] at HX HR HB HT HL⊢
 clear hW0
 have hc0:=HX.out.cell (i:=0) (v:= .int .i64 T.things) rfl
 have hc1:=HX.out.cell (i:=1) (v:= .int .i64 T.now.known) rfl
 have hc2:=HX.out.cell (i:=2) (v:= .slice A n c) rfl
 have hc3:=HX.out.cell (i:=3) (v:= .slice B m d) rfl
 have HOK:=zH (J3 T A B n c m d W0 HT.out HS.out)
 rw[HZ.out] at HOK
 go_wp2_with fail
 refine HOK.out.mono ?_
 rintro e w1 ⟨rfl,hb⟩
 have HX1:=zH (HX.out.below hb)
 have HR1:=zH (HR.out.below hb)
 have HB1:=zH (aA HB.out hb)
 have HT1:=zH (HT.out.below hb)
 have HL1:=zH (HL.out.below hb)
 clear hb hc0 hc1 hc2 hc3 HX HR HB HT HL HOK
 have HBAD:Hid (∀w1,Below w.heap.size w w1→Hid (Below w.heap.size w ((((w1.setCell ⟨w.heap.size+1,0,none⟩ (.int .i64 0)).setCell ⟨w.heap.size+1,1,none⟩ (.int .i64 0)).setCell ⟨w.heap.size+1,2,none⟩ (.slice none 0 0)).setCell ⟨w.heap.size+1,3,none⟩ (.slice none 0 0)))):=fun w1 h=>bG h (show w.heap.size≤w.heap.size+1 by omega) _ _ _ _
 cases z with
 |false=>
  have HPE:Hid (P=(lW,[])):=HP.out.symm.trans (say_bad fun h=>by have:=HZ.out;rw[h.1] at this;cases this)
  obtain⟨⟨ha0,ha1,ha2,ha3,ha4,ha5,ha6,ha7⟩,⟨hb2,hb3⟩,⟨hb4,hb5⟩,⟨hb6,hb7⟩,HOUT⟩:=HR1.out.store4 (.int .i64 0) (.int .i64 0) (.slice none 0 0) (.slice none 0 0)
  have HBE:=HBAD.out w1 HB1.out
  go_wp2_with fail
  refine bodyPost_ret_by (aU (b:=w.heap.size+1) rfl rfl rfl HOUT) rfl ?_
  show SaysPost P.1 P.2 w _ _
  rw[HPE.out]
  exact⟨.slice none 0 0,.slice none 0 0,[],_,rfl,aK.nil _ _,aY.nil _ _ _,pE.nil _,aK.nil _ _,ApV.nil _ _,HBE.out⟩
 |true=>
  by_cases hl:40<ls.length
  ·have hd:decide ((40:Int)<(ls.length:Int))=true:=decide_eq_true (by omega)
   have HPE:Hid (P=(lW,[])):=HP.out.symm.trans (say_bad fun h=>by have:=h.2;omega)
   obtain⟨⟨ha0,ha1,ha2,ha3,ha4,ha5,ha6,ha7⟩,⟨hb2,hb3⟩,⟨hb4,hb5⟩,⟨hb6,hb7⟩,HOUT⟩:=HR1.out.store4 (.int .i64 0) (.int .i64 0) (.slice none 0 0) (.slice none 0 0)
   have HBE:=HBAD.out w1 HB1.out
   clear hl
   go_wp2_with fail
   refine bodyPost_ret_by (aU (b:=w.heap.size+1) rfl rfl rfl HOUT) rfl ?_
   show SaysPost P.1 P.2 w _ _
   rw[HPE.out]
   exact⟨.slice none 0 0,.slice none 0 0,[],_,rfl,aK.nil _ _,aY.nil _ _ _,pE.nil _,aK.nil _ _,ApV.nil _ _,HBE.out⟩
  have hd:decide ((40:Int)<(ls.length:Int))=false:=decide_eq_false (by omega)
  have hl40:ls.length≤40:=by omega
  have HE:Hid (sayTo T ls=saidT T ls ls.length):=(said_all HZ.out hl40).symm
  clear hl HBAD
  have hc0:=HX1.out.cell (i:=0) (v:= .int .i64 T.things) rfl
  have hc1:=HX1.out.cell (i:=1) (v:= .int .i64 T.now.known) rfl
  have hc2:=HX1.out.cell (i:=2) (v:= .slice A n c) rfl
  have hc3:=HX1.out.cell (i:=3) (v:= .slice B m d) rfl
  go_wp2_with fail
  refine(zQ T.things T.now.known _ _ A B n c m d rfl rfl w1).mono ?_
  rintro e w2 ⟨rfl,hb⟩
  have HR2:=zH (HR1.out.below hb)
  have HB2:=zH (aA HB1.out hb)
  have HT2:=zH (HT1.out.below hb)
  have HL2:=zH (HL1.out.below hb)
  clear hb hc0 hc1 hc2 hc3 HX1 HR1 HB1 HT1 HL1
  go_upto_region 4 with fail
  have hG:=aD.new w2 79 [.int .i64 T.now.known,.slice A n c,.int .i64 T.things,.slice B m d]
  have hbel:=oA w2 (.cells #[.int .i64 T.now.known,.slice A n c,.int .i64 T.things,.slice B m d] 79)
  have HR3:=zH (HR2.out.below hbel)
  have HB3:=zH (aA HB2.out hbel)
  have HL3:=zH (HL2.out.below hbel)
  have HAT3:Hid (∀W,ExcP (Ans w2.heap.size (.slice none 0 0)) (w2.alloc (.cells #[.int .i64 T.now.known,.slice A n c,.int .i64 T.things,.slice B m d] 79)) W→bN W T A n c B m d):=fun W hW=>by
   have he:∀k,k<w2.heap.size→W.heap[k]? =w2.heap[k]? :=fun k hk=>(hW.2 k (by rw[World.size_alloc];omega) (fun e=>by rcases e with e|e;(· omega);cases e)).trans (hbel.block k hk)
   exact tk_blocksP HT2.out (Nat.le_trans hbel.size hW.1) he
  have hh6:w.heap.size+1<w2.heap.size:=HR2.out.lt
  obtain⟨h6,he6⟩:∃h6,w2.heap.size=h6:=⟨_,rfl⟩
  obtain⟨W3,hW3⟩:∃W,w2.alloc (.cells #[.int .i64 T.now.known,.slice A n c,.int .i64 T.things,.slice B m d] 79)=W:=⟨_,rfl⟩
  rw[hW3] at hG HR3 HB3 HL3 HAT3
  rw[he6] at hG HAT3 hh6
  rw[hW3]
  try rw[he6]
  have HG:=zH hG
  clear hW3 he6 hG hbel HR2 HB2 HT2 HL2 hd
  have HN0:Hid (saidT T ls 0=(T,[])):=said_zero T ls
  have HO0:Hid (aK W3 w.heap.size (.slice none 0 0) []):=aK.nil _ _
  go_wp2_with fail
  go_loopw [7,25] (fun v i wr=>∃(k:Nat) (X:aL) (an:List ByteArray) (A:Option Addr) (n c:Nat) (B:Option Addr) (m d:Nat),k≤ls.length∧i= .int .i64 k∧Hid (saidT T ls k=(X,an))∧Hid (aD wr h6 79 [.int .i64 X.now.known,.slice A n c,.int .i64 X.things,.slice B m d])∧Hid (∀W,ExcP (Ans h6 v) wr W→bN W X A n c B m d)∧Hid (Below w.heap.size w wr)∧Hid (aD wr (w.heap.size+1) 33 [.int .i64 0,.int .i64 0,.slice none 0 0,.slice none 0 0])∧Hid (a7 wr L ls)∧Hid (aK wr w.heap.size v an)) (fun _ i _=>ls.length-(Go.RowKit.intOf i).toNat)
  case atStart=>exact⟨0,T,[],A,n,c,B,m,d,Nat.zero_le _,rfl,HN0,HG,HAT3,HB3,HR3,HL3,HO0⟩
  case round=>
   obtain⟨k,X,an,A,n,c,B,m,d,hk,rfl,HRUN,HG,HAT,HB,HR,HL,HO⟩:=hrel
   obtain⟨v7,hv7⟩:∃v,u7=v:=⟨_,rfl⟩
   rw[hv7] at HAT HO⊢
   clear hv7
   have HXO:Hid (dP X=true∧an.length=k):=said_ok HRUN.out HZ.out hk
   by_cases hlt:k<ls.length
   ·obtain⟨b,off,x,rfl,he0,hx,hbl⟩:=HL.out.elem hlt
    have HDX:=zH (HLS.out _ (mT hx))
    have HNX:=zH (said_next hx HRUN.out)
    have hg0:=HG.out.cell (i:=0) (v:= .int .i64 X.now.known) rfl
    have hg1:=HG.out.cell (i:=1) (v:= .slice A n c) rfl
    have hg2:=HG.out.cell (i:=2) (v:= .int .i64 X.things) rfl
    have hg3:=HG.out.cell (i:=3) (v:= .slice B m d) rfl
    have HSAY:=zH (YK X A B n c m d x (ExcP (Ans h6 v7) wr) wr (tkR_of_excP HAT.out) (ExcP.refl _ wr) HXO.out.1 HDX.out (HGT.out.below HB.out))
    obtain⟨Q,hQ⟩:∃Q,kS X x=Q:=⟨_,rfl⟩
    rw[hQ] at HSAY HNX
    obtain⟨Y,a⟩:=Q
    have HYO:Hid (dP Y=true):=by
     have:=(CA aH sR p5 x HXO.out.1).1
     rw[show cH aH sR p5 X x=(Y,a) from hQ] at this;exact this
    dsimp only at HSAY HNX
    clear hQ
    go_wp2_with fail
    refine HSAY.out.mono ?_
    rintro e w5 ⟨A',n',c',B',m',d',rfl,hat,hb⟩
    have HG5:=zH (HG.out.below hb)
    have HB5:=zH (aA HB.out hb)
    have HR5:=zH (HR.out.below hb)
    have HL5:=zH (HL.out.below hb)
    have HO5:=zH (HO.out.below hb)
    have hh6r:h6<wr.heap.size:=HG.out.lt
    have HATN:=zH (fun w9 hb9 v' w' o p q r s hg hv' =>said_talk (v' :=v') (w' :=w') (o:=o) (w9:=w9) (p:=p) (q:=q) (r:=r) (s:=s) hh6r (fun k hk=>(World.ownsRow.lt HO.out k hk).2) hat hb hb9 hg hv')
    clear hat hb hg0 hg1 hg2 hg3 HSAY HG HB HR HL HO HAT he0 hh6r
    go_upto_region 9 with fail
    have hE:=aD.new w5 79 [.int .i64 Y.now.known,.slice A' n' c',.int .i64 Y.things,.slice B' m' d']
    have hbel:=oA w5 (.cells #[.int .i64 Y.now.known,.slice A' n' c',.int .i64 Y.things,.slice B' m' d'] 79)
    have HG6:=zH (HG5.out.below hbel)
    have HB6:=zH (aA HB5.out hbel)
    have HR6:=zH (HR5.out.below hbel)
    have HL6:=zH (HL5.out.below hbel)
    have HO6:=zH (HO5.out.below hbel)
    have HATN6:=zH (HATN.out _ hbel)
    obtain⟨W6,hW6⟩:∃W,w5.alloc (.cells #[.int .i64 Y.now.known,.slice A' n' c',.int .i64 Y.things,.slice B' m' d'] 79)=W:=⟨_,rfl⟩
    obtain⟨h10,he10⟩:∃h10,w5.heap.size=h10:=⟨_,rfl⟩
    rw[hW6] at hE HG6 HB6 HR6 HL6 HO6 HATN6
    rw[hW6]
    rw[he10] at hE
    try rw[he10]
    have HE10:=zH hE
    clear hW6 he10 hE hbel HG5 HB5 HR5 HL5 HO5 HATN
    have hz0:=HE10.out.cell (i:=0) (v:= .int .i64 Y.now.known) rfl
    have hz1:=HE10.out.cell (i:=1) (v:= .slice A' n' c') rfl
    have hz2:=HE10.out.cell (i:=2) (v:= .int .i64 Y.things) rfl
    have hz3:=HE10.out.cell (i:=3) (v:= .slice B' m' d') rfl
    obtain⟨⟨ha0,ha1,ha2,ha3,ha4,ha5,ha6,ha7⟩,⟨hb2,hb3⟩,⟨hb4,hb5⟩,⟨hb6,hb7⟩,HG7⟩:=HG6.out.store4 (.int .i64 Y.now.known) (.slice A' n' c') (.int .i64 Y.things) (.slice B' m' d')
    have HB7:=zH (bG HB6.out (show w.heap.size≤h6 by omega) (.int .i64 Y.now.known) (.slice A' n' c') (.int .i64 Y.things) (.slice B' m' d'))
    have HR7:=zH (HR6.out.other4 (g:=h6) (by omega) (.int .i64 Y.now.known) (.slice A' n' c') (.int .i64 Y.things) (.slice B' m' d'))
    have HL7:=zH (strs_exc HL6.out (fI.set4 h6 W6 (.int .i64 Y.now.known) (.slice A' n' c') (.int .i64 Y.things) (.slice B' m' d')) (fun hn ad e=>by have:=HLB.out hn ad e;omega))
    have HO7:=zH (HO6.out.setBox4 HG6.out (by decide) (.int .i64 Y.now.known) (.slice A' n' c') (.int .i64 Y.things) (.slice B' m' d'))
    have hsz7:=(fI.set4 h6 W6 (.int .i64 Y.now.known) (.slice A' n' c') (.int .i64 Y.things) (.slice B' m' d')).1
    go_upto_region 10 with fail
    obtain⟨W7,hW7⟩:∃W,set4 W6 h6 (.int .i64 Y.now.known) (.slice A' n' c') (.int .i64 Y.things) (.slice B' m' d')=W:=⟨_,rfl⟩
    have HATN7:=zH (fun v' w' o hg hv' =>HATN6.out v' w' o (.int .i64 Y.now.known) (.slice A' n' c') (.int .i64 Y.things) (.slice B' m' d') hg hv')
    unfold set4 at hW7 HATN7
    rw[hW7] at HG7 HB7 HR7 HL7 HO7 HATN7 hsz7
    rw[hW7]
    clear hW7 hz0 hz1 hz2 hz3 ha0 ha1 ha2 ha3 ha4 ha5 ha6 ha7 hb2 hb3 hb4 hb5 hb6 hb7 HG6 HB6 HR6 HL6 HO6 HATN6 HE10
    have HNO:Hid (an.length≤1048576):=by have:=HXO.out.2;unfold Hid;omega
    go_upto_region 11 with(at_builtin;refine wpL_appV (W:=W7) rfl _ _ rfl w.heap.size v7 an rfl HO7.out (cJ a) rfl HNO.out HB7.out.size ?_;intro v' w8 ho hg hv')
    have HG8:=zH ((HG7.out.alloc (.cells #[.string (cJ a)] 9)).grownO hg (iP HG7.out HO7.out (by decide)))
    have HR8:=zH ((HR7.out.alloc (.cells #[.string (cJ a)] 9)).grownO hg (iP HR7.out HO7.out (by decide)))
    have HB8:=zH (EC HB7.out HB7.out.size HO7.out (Nat.le_refl _) hg)
    have HL8:=zH (strs_ownP (HL7.out.alloc (.cells #[.string (cJ a)] 9)) hg (fun k hk=>(World.ownsRow.lt HO7.out k hk).1) HLB.out)
    have HAT8:=zH (HATN7.out v' w8 _ hg (fun k hk=>(hv' k hk).imp id fun h=>by omega))
    have HO8:=zH ho
    clear ho hg hv'
    go_wp2_with fail
    go_roundw
    case rel=>exact⟨k+1,Y,an++[cJ a],A',n',c',B',m',d',by omega,by go_num,HNX,HG8,HAT8,HB8,HR8,HL8,HO8⟩
    case measure=>simp[Go.RowKit.intOf];omega
   ·obtain rfl:k=ls.length:=by omega
    have HPE:Hid (P=(X,an)):=HP.out.symm.trans (HE.out.trans HRUN.out)
    have hg0:=HG.out.cell (i:=0) (v:= .int .i64 X.now.known) rfl
    have hg1:=HG.out.cell (i:=1) (v:= .slice A n c) rfl
    have hg2:=HG.out.cell (i:=2) (v:= .int .i64 X.things) rfl
    have hg3:=HG.out.cell (i:=3) (v:= .slice B m d) rfl
    have HGI:=zH (SF X A B n c m d wr (HAT.out wr (ExcP.refl _ _)) (lQ HXO.out.1))
    go_wp2_with fail
    refine HGI.out.mono ?_
    rintro e w8 ⟨o,p,vs,rfl,ho,hp,hap,hb⟩
    have HAV:=zH (apV_old HO.out ho hp (Nat.le_refl _))
    obtain⟨Ao,co,rfl,_⟩:=ho.form
    obtain⟨Ap,cp,rfl,_⟩:=hp.form
    have HR8:=zH (HR.out.below hb)
    have HB8:=zH (aA HB.out hb)
    have HO8:=zH (HO.out.below hb)
    have hzl:w.heap.size+1<wr.heap.size:=HR.out.lt
    have HOF:=zH (HO8.out.setBox4 HR8.out (by decide) (.int .i64 X.things) (.int .i64 X.now.known) (.slice Ao X.now.op.length co) (.slice Ap X.past.length cp))
    obtain⟨⟨ha0,ha1,ha2,ha3,ha4,ha5,ha6,ha7⟩,⟨hb2,hb3⟩,⟨hb4,hb5⟩,⟨hb6,hb7⟩,HOUT⟩:=HR8.out.store4 (.int .i64 X.things) (.int .i64 X.now.known) (.slice Ao X.now.op.length co) (.slice Ap X.past.length cp)
    have hke:aX wr.heap.size w8 _:=jF hzl (.int .i64 X.things) (.int .i64 X.now.known) (.slice Ao X.now.op.length co) (.slice Ap X.past.length cp)
    have HFO:=zH (And.intro ((ho.keep hke).base HB.out.size) (And.intro ((hp.keep hke).base HB.out.size) (And.intro hap (And.intro HOF.out (And.intro HAV.out (bG HB8.out (show w.heap.size≤w.heap.size+1 by omega) (.int .i64 X.things) (.int .i64 X.now.known) (.slice Ao X.now.op.length co) (.slice Ap X.past.length cp)))))))
    clear ho hp hap hb hke hg0 hg1 hg2 hg3
    go_wp2_with fail
    refine bodyPost_ret_by (aU (b:=w.heap.size+1) rfl rfl rfl HOUT) rfl ?_
    show SaysPost P.1 P.2 w _ _
    rw[HPE.out]
    exact⟨_,_,vs,v7,rfl,HFO.out⟩
end Go.Proofs.YtfhjcacfchkdpaaGreatDoor

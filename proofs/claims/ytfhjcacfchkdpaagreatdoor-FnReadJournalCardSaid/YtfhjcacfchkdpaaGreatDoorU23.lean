/-
  What the proofs of this seat's statements share (TlkE).
-/
import Derived.Deep.Cut
import Derived.Deep.CutRange
import Derived.Deep.CutBlock
import Derived.Test.YtfhjcacfchkdpaaGreatDoorU22
set_option maxRecDepth 100000
set_option maxHeartbeats 32000000
namespace Go.Proofs.YtfhjcacfchkdpaaGreatDoor
open Go.RowKit
theorem RE{w W w' :World}{g h:Nat}{arg kd:List Value}{a0 a1 a2 p k' o' :Value}{ys:List ByteArray}{vs:List (Int×Value)}{xs:List (St ByteArray)}{ob:Obj}
  (hD:iY w g arg kd [a0,a1,a2,p] W) (hM:aD W h 30 [k',o']) (hO:aK W (w.heap.size+3) o' ys) (hP:aY 30 W (w.heap.size+3) p vs xs) (hph:∀k,p.ownBlock=some k→k<h) (hg:(W.alloc ob).grownBy w' p.ownBlock):
  iY w g arg kd [a0,a1,a2,p] w'∧aD w' h 30 [k',o']∧aK w' (w.heap.size+3) o' ys:=by
 have hap:∀(b:Nat) (T:TypeId) (cs:List Value),aD W b T cs→T≠30→∀k,p.ownBlock=some k→k≠b:=fun b T cs hb hT=>iP hb hP.row hT
 refine⟨⟨(hD.x.alloc _).grownO hg (hap _ _ _ hD.x (by decide)),(hD.d.alloc _).grownO hg (hap _ _ _ hD.d (by decide)),(hD.r.alloc _).grownO hg (hap _ _ _ hD.r (by decide)),(hD.o.alloc _).grownO hg (hap _ _ _ hD.o (by decide)),?_,hD.lo⟩,(hM.alloc _).grownO hg (fun k hk=>by have:=hph k hk;omega),(hO.below ((Below.refl _ _).alloc (Nat.le_refl _) ob)).kept hg (eC hO hP.row (by decide))⟩
 exact(hD.b.alloc hD.b.size ob).grown hg (by rw[World.size_alloc];have:=hD.b.size;omega) fun e he=>by have:=(hP.lt he).1;omega
theorem CU{w W w' :World}{g h:Nat}{arg kd:List Value}{a0 a1 a2 p k' o' v2:Value}{ys:List ByteArray}{vs vs2:List (Int×Value)}{xs l:List (St ByteArray)}{ob:Obj}
  (hD:iY w g arg kd [a0,a1,a2,p] W) (hM:aD W h 30 [k',o']) (hO:aK W (w.heap.size+3) o' ys) (hP:aY 30 W (w.heap.size+3) p vs xs) (hph:∀k,p.ownBlock=some k→k<h) (hgh:g<h)
  (hx2:aY 30 w' (w.heap.size+3) v2 vs2 l) (hg:(W.alloc ob).grownBy w' p.ownBlock):
  ∃A3 n3 c3,v2= .slice A3 n3 c3∧n3=l.length∧n3≤c3∧c3≤maxLen∧(w'.cell? ⟨g,3,none⟩=some p∧w'.frozen? ⟨g,3,none⟩=false)∧iY w g arg kd [a0,a1,a2,.slice A3 n3 c3] (w'.setCell ⟨g,3,none⟩ (.slice A3 n3 c3))∧
   aY 30 (w'.setCell ⟨g,3,none⟩ (.slice A3 n3 c3)) (w.heap.size+3) (.slice A3 l.length c3) vs2 l∧aK (w'.setCell ⟨g,3,none⟩ (.slice A3 n3 c3)) (w.heap.size+3) o' ys∧aD (w'.setCell ⟨g,3,none⟩ (.slice A3 n3 c3)) h 30 [k',o']:=by
 obtain⟨hd,hm,hy⟩:=RE hD hM hO hP hph hg
 obtain⟨A3,c3,rfl,h1,h2,_,_⟩:=hx2.form
 obtain⟨h3,h4⟩:=hd.put3 (.slice A3 l.length c3)
 exact⟨A3,_,c3,rfl,rfl,h1,h2,h3,h4,hx2.setBox hd.o (by decide) (by decide),hy.setBox hd.o (by decide),hm.other (by omega) _⟩
theorem xO{w:World}{lo c' d:Nat}{t:Int}{A' B:Option Addr}{y:St ByteArray}{vs:List (Int×Value)}{l:List (St ByteArray)}(hu:aK w lo (.slice A' y.op.length c') y.op)(hp:aY 30 w lo (.slice B l.length d) vs l):
  (l.length≤10→f9 w lo ⟨t,y,eD l⟩ A' y.op.length c' B l.length d)∧
  (10<l.length→∃b off,B=some ⟨b,off,none⟩∧f9 w lo ⟨t,y,eD l⟩ A' y.op.length c' (some ⟨b,off+2,none⟩) (l.length-1) (d-1)):=by
 refine⟨fun hl=>⟨fun w' hk=> ?_,hu,BI hu hp.row (by decide),z8 hp⟩,fun hl=> ?_⟩
 ·obtain⟨_,_,e,h1,h2,h3,_⟩:=(hu.keep hk).form
  cases e
  obtain⟨_,_,e,h4,h5,h6,_⟩:=(hp.keep hk).form
  cases e
  have hke:eD l=l:=by unfold eD;rw[if_neg (by omega)]
  exact⟨rfl,h1,h2,h3,by show _=(eD l).length;rw[hke],h4,h5,by show b6 _ _ (eD l);rw[hke];exact h6⟩
 ·obtain⟨_,_,e,_,_,h6,_⟩:=hp.form
  cases e
  obtain⟨b,off,rfl,_⟩:=h6 (by omega)
  refine⟨b,off,rfl,fun w' hk=> ?_,hu,fun x y hx hy=>by cases hy;exact BI hu hp.row (by decide) x ⟨b,off,none⟩ hx rfl,fun y hy=>by cases hy;exact z8 hp ⟨b,off,none⟩ rfl⟩
  obtain⟨_,_,e,h1,h2,h3,_⟩:=(hu.keep hk).form
  cases e
  obtain⟨_,_,e,h4,h5,h6,_⟩:=(hp.keep hk).form
  cases e
  have hke:eD l=l.tail:=by unfold eD;rw[if_pos hl]
  exact⟨rfl,h1,h2,h3,by show _=(eD l).length;rw[hke,List.length_tail],by omega,by omega,by show b6 _ _ (eD l);rw[hke];exact h6.drop1⟩
theorem EN{wx w4:World}{h i:Nat}(hB:Below w4.heap.size w4 wx)(hh:w4.heap.size≤h)(v:Value):
  Below w4.heap.size w4 (wx.setCell ⟨h,i,none⟩ v):=hB.setCell (p:=⟨h,i,none⟩) hh _
theorem DC{w4 w9 w10:World}{h no co:Nat}{L:Value}{Ao:Option Addr}{ys:List ByteArray}{x:ByteArray}{v1:Value}{ob:Obj}(hB:Below w4.heap.size w4 w9)(hM:aD w9 h 30 [L,.slice Ao no co])(hO:aK w9 (h+1) (.slice Ao no co) ys)(hh:w4.heap.size=h)
  (hr:aK w10 (h+1) v1 (ys++[x])) (hg:(w9.drew.alloc ob).grownBy w10 (Value.slice Ao no co).ownBlock):
  ∃A3 n3 c3,v1= .slice A3 n3 c3∧Below w4.heap.size w4 w10∧(w10.cell? ⟨h,1,none⟩=some (.slice Ao no co)∧w10.frozen? ⟨h,1,none⟩=false)∧w10.cell? ⟨h,0,none⟩=some L∧Below w4.heap.size w4 (w10.setCell ⟨h,1,none⟩ (.slice A3 n3 c3))∧aD (w10.setCell ⟨h,1,none⟩ (.slice A3 n3 c3)) h 30 [L,.slice A3 n3 c3]∧
   aK (w10.setCell ⟨h,1,none⟩ (.slice A3 n3 c3)) (h+1) (.slice A3 n3 c3) (ys++[x]):=by
 obtain⟨A3,c3,rfl,_⟩:=hr.form
 have hlt:=hM.lt
 have hb1:Below w4.heap.size w4 (w9.drew.alloc ob):=(aE hB 1).alloc (aE hB 1).size ob
 have hb:Below w4.heap.size w4 w10:=hb1.grown hg hb1.size fun e he=>by have:=(hO.lt he).1;omega
 have hM2:aD w10 h 30 [L,.slice Ao no co]:=(hM.drew.alloc ob).grownO hg (fun k hk=>by have:=(hO.lt hk).1;omega)
 exact⟨A3,_,c3,rfl,hb,⟨hM2.cell rfl,hM2.frozen 1⟩,hM2.cell rfl,EN hb (by omega) _,hM2.set 1 _,hr.keep (aX.set (by omega))⟩
theorem yR{t L:Int}{xs:List ByteArray}{j:Nat}{x:ByteArray}(hx:xs[j]? =some x):
  (xs.take (j+1)).filter (fun s=> !aH.sett t L s)=(xs.take j).filter (fun s=> !aH.sett t L s)++(if aH.sett t L x=true then[] else[x]):=by
 rw[List.take_succ_eq_append_getElem (List.getElem?_eq_some_iff.1 hx).1,(List.getElem?_eq_some_iff.1 hx).2,List.filter_append]
 congr 1
 cases hv:aH.sett t L x<;>simp[hv]
theorem y4{t u:Int}{s:ByteArray}(h:Hid (dO t s=u))(w:World)(hs:s.size≤9223372036854775807):Calls Tryz.prog 67 #[.int .i64 t,.string s] w fun e w' =>e= .returned (.int .i64 u)∧Below w.heap.size w w' :=by
 have:=T8 t s w hs
 rw[h.out] at this;exact this
theorem JH(T:aL)(A B:Option Addr)(n c m d:Nat)(text:ByteArray)(w:World)(hT:bN w T A n c B m d)(hs:cD T)(hx:text.size≤1048576)(hok:dP T=true)(hS:fY T.things text=true)(X:aL)(r:Bool)
  (hr:(gJ T 0 text=none∧X=T∧r=false)∨(gJ T 0 text=some X∧r=true)):
  Calls Tryz.prog 61 #[.agg #[.int .i64 T.things,.int .i64 T.now.known,.slice A n c,.slice B m d],.agg #[.int .i64 0,.string text]] w (rB X r w):=by
 obtain⟨tr,htr⟩:∃tr,dO T.things text=tr:=⟨_,rfl⟩
 obtain⟨L,hL⟩:∃L,aQ T.now.known tr=L:=⟨_,rfl⟩
 have hdo:gJ T 0 text=if L=0∨L=T.now.known then none else some (iG T ⟨L,T.now.op.filter fun s=> !aH.sett T.things L s⟩):=by
  unfold gJ cX
  rw[if_neg (by decide),if_pos rfl,if_pos (show aH.isS T.things text=true from hS)]
  subst hL htr
  rfl
 have HNO:Hid (L=0∨L=T.now.known→X=T∧r=false):=fun h=>by
  rw[hdo,if_pos h] at hr
  rcases hr with⟨_,h2,h3⟩|⟨h2,_⟩
  ·exact⟨h2,h3⟩
  ·cases h2
 have HYES:Hid (L≠0→L≠T.now.known→X=iG T ⟨L,T.now.op.filter fun s=> !aH.sett T.things L s⟩∧r=true):=fun h1 h2=>by
  rw[hdo,if_neg (fun h=>h.elim h1 h2)] at hr
  rcases hr with⟨h3,_⟩|⟨h3,h4⟩
  ·cases h3
  ·exact⟨(Option.some.inj h3).symm,h4⟩
 have hset:=((cS aH).1 ((cT aH).1 hok).1).1
 obtain⟨ht1,ht3,hq0,hqa,hq256⟩:=aZ hset
 have htr0:0≤tr∧tr<256:=by
  obtain⟨y,hy⟩:=iV.1 (show aH.isS T.things text=true from hS)
  have h1:=nK hy
  have h2:=(bH T.things).2
  rw[htr] at h1
  omega
 have HSEN:Hid (∀s∈T.now.op,aH.isS T.things s=true):=fun s hs=>(((cS aH).1 ((cT aH).1 hok).1).2.2.2.1 s hs).1
 have HL0:Hid (0≤L∧L<256):=by
  have:=lC T.now.known tr hq0
  have:=aR T.now.known tr
  unfold Hid
  omega
 have HTR:=zH htr
 have HLL:=zH hL
 have HR0' :=zH hset
 have HQ:Hid (0≤T.now.known∧T.now.known<256):=⟨hq0,hq256⟩
 have HTR0:=zH htr0
 have HIS:=zH hS
 clear hr hdo hset ht1 ht3 hq0 hqa hq256 htr0 htr hL hS
 obtain rfl:=hT.hn
 obtain rfl:=hT.pn
 obtain⟨HX0,HK0,HR0,HB0⟩:=rL w T.things T.now.known 0 text (.slice A T.now.op.length c) (.slice B T.past.length d)
 have HT:=zH hT
 have HS:=zH hs
 have hol:=hs.op
 have hpl:=hs.past
 have hx9:text.size≤9223372036854775807:=by omega
 obtain⟨t,ht⟩:∃t,T.things=t:=⟨_,rfl⟩
 obtain⟨q,hq⟩:∃q,T.now.known=q:=⟨_,rfl⟩
 have HTQ:Hid (T.things=t∧T.now.known=q):=⟨ht,hq⟩
 have HOK:Hid (∀W:World,Below w.heap.size w W→Calls Tryz.prog 13 #[.agg #[.int .i64 t,.int .i64 q,.slice A T.now.op.length c,.slice B T.past.length d]] W fun e w' =>e= .returned (.bool (dP T))∧Below W.heap.size W w'):=fun W h=>by
  have:=q7 T A B _ c _ d W (hT.below h) hs
  rw[ht,hq] at this;exact this
 have HCP:Hid (∀W:World,Below w.heap.size w W→w.heap.size+3≤W.heap.size→Calls Tryz.prog 60 #[.agg #[.int .i64 t,.int .i64 q,.slice A T.now.op.length c,.slice B T.past.length d]] W (tD T (w.heap.size+3) t q W)):=fun W h h2=>pF HTQ (hT.below h) hs h2
 rw[hok] at HOK
 rw[ht,hq] at HX0 HK0 HR0 HB0⊢
 have HOT:=zH hok
 clear hT hs ht hq hok
 go_enter Tryz.func61,Tryz.ntmps61
 go_wp2_with fail
 obtain⟨W0,hW0⟩:∃W,((w.alloc (.cells #[.int .i64 t,.int .i64 q,.slice A T.now.op.length c,.slice B T.past.length d] 33)).alloc (.cells #[.int .i64 0,.string text] 41)).alloc (.cells #[.int .i64 0,.int .i64 0,.slice none 0 0,.slice none 0 0] 33)=W:=⟨_,rfl⟩
 rw[hW0] at HX0 HK0 HR0 HB0⊢
 clear hW0
 refine(HOK.out _ HB0.out).mono ?_
 rintro e w1 ⟨rfl,hb⟩
 have HX1:=zH (HX0.out.below hb)
 have HK1:=zH (HK0.out.below hb)
 have HR1:=zH (HR0.out.below hb)
 have HB1:=zH (aA HB0.out hb)
 clear hb HX0 HK0 HR0 HB0 HOK
 have hx0:=HX1.out.cell (i:=0) (v:= .int .i64 t) rfl
 have hx1:=HX1.out.cell (i:=1) (v:= .int .i64 q) rfl
 have hx2:=HX1.out.cell (i:=2) (v:= .slice A T.now.op.length c) rfl
 have hx3:=HX1.out.cell (i:=3) (v:= .slice B T.past.length d) rfl
 rw[HTQ.out.1] at HIS HTR HSEN
 rw[HTQ.out.2] at HLL HQ
 have hlo1:w.heap.size+3≤w1.heap.size:=by have:=HR1.out.lt;omega
 go_wp2_with fail
 refine(HCP.out _ HB1.out hlo1).mono ?_
 rintro e w2 ⟨A2,c2,B2,d2,vs,rfl,ho,hp,hb⟩
 obtain⟨g,hg⟩:∃g,w2.heap.size=g:=⟨_,rfl⟩
 have hsz2:w1.heap.size≤w2.heap.size:=hb.size
 have hD:iY w g [.int .i64 t,.int .i64 q,.slice A T.now.op.length c,.slice B T.past.length d] [.int .i64 0,.string text] [.int .i64 t,.int .i64 q,.slice A2 T.now.op.length c2,.slice B2 T.past.length d2] (w2.alloc (.cells #[.int .i64 t,.int .i64 q,.slice A2 T.now.op.length c2,.slice B2 T.past.length d2] 33)):=by
  have:=aD.new w2 33 [.int .i64 t,.int .i64 q,.slice A2 T.now.op.length c2,.slice B2 T.past.length d2]
  rw[hg] at this
  exact⟨(HX1.out.below hb).alloc _,(HK1.out.below hb).alloc _,(HR1.out.below hb).alloc _,this,(aA HB1.out hb).alloc (aA HB1.out hb).size _,by omega⟩
 have hbn:Below w2.heap.size w2 (w2.alloc (.cells #[.int .i64 t,.int .i64 q,.slice A2 T.now.op.length c2,.slice B2 T.past.length d2] 33)):=(Below.refl _ _).alloc (Nat.le_refl _) _
 have HO:Hid (aK (w2.alloc (.cells #[.int .i64 t,.int .i64 q,.slice A2 T.now.op.length c2,.slice B2 T.past.length d2] 33)) (w.heap.size+3) (.slice A2 T.now.op.length c2) T.now.op):=ho.below hbn
 have HP:Hid (aY 30 (w2.alloc (.cells #[.int .i64 t,.int .i64 q,.slice A2 T.now.op.length c2,.slice B2 T.past.length d2] 33)) (w.heap.size+3) (.slice B2 T.past.length d2) vs T.past):=hp.below hbn
 have HLT:Hid ((∀k,(Value.slice A2 T.now.op.length c2).ownBlock=some k→k<g)∧∀k,(Value.slice B2 T.past.length d2).ownBlock=some k→k<g):=by
  refine⟨fun k hk=> ?_,fun k hk=> ?_⟩
  ·have:=(ho.lt hk).2;omega
  ·have:=(hp.lt hk).2;omega
 have HD:=zH hD
 clear hD ho hp hb hbn hsz2 hlo1 hx0 hx1 hx2 hx3 HX1 HK1 HR1 HB1 HCP
 go_upto_region 4 with fail
 obtain⟨w3,hw3⟩:∃w3,w2.alloc (.cells #[.int .i64 t,.int .i64 q,.slice A2 T.now.op.length c2,.slice B2 T.past.length d2] 33)=w3:=⟨_,rfl⟩
 rw[hw3] at HD HO HP⊢
 have HSZ:Hid (w3.heap.size=g+1):=by unfold Hid;rw[←hw3,World.size_alloc,hg]
 clear hw3 hg
 have hx0:=HD.out.x.cell (i:=0) (v:= .int .i64 t) rfl
 have hx1:=HD.out.x.cell (i:=1) (v:= .int .i64 q) rfl
 have hx2:=HD.out.x.cell (i:=2) (v:= .slice A T.now.op.length c) rfl
 have hx3:=HD.out.x.cell (i:=3) (v:= .slice B T.past.length d) rfl
 have hk0:=HD.out.d.cell (i:=0) (v:= .int .i64 0) rfl
 have hk1:=HD.out.d.cell (i:=1) (v:= .string text) rfl
 have ho0:=HD.out.o.cell (i:=0) (v:= .int .i64 t) rfl
 have ho1:=HD.out.o.cell (i:=1) (v:= .int .i64 q) rfl
 have ho2:=HD.out.o.cell (i:=2) (v:= .slice A2 T.now.op.length c2) rfl
 have ho3:=HD.out.o.cell (i:=3) rfl
 go_wp2_with (go_at_call 98;refine(hV _ _ _ _ (by decide) (by decide)).mono ?_;rintro e w' ⟨rfl,rfl⟩)
 refine(fD HIS _ hx9).mono ?_
 rintro e w4 ⟨rfl,hb⟩
 have hgs:g<w3.heap.size:=HD.out.o.lt
 have hs34:w3.heap.size≤w4.heap.size:=hb.size
 clear hx0 hx1 hx2 hx3 hk0 hk1 ho0 ho1 ho2 ho3
 replace HD:=zH (HD.out.below hb)
 replace HO:=zH (HO.out.below hb)
 replace HP:=zH (HP.out.below hb)
 clear hb
 have hx0:=HD.out.x.cell (i:=0) (v:= .int .i64 t) rfl
 have hx1:=HD.out.x.cell (i:=1) (v:= .int .i64 q) rfl
 have hx2:=HD.out.x.cell (i:=2) (v:= .slice A T.now.op.length c) rfl
 have hx3:=HD.out.x.cell (i:=3) (v:= .slice B T.past.length d) rfl
 have hk0:=HD.out.d.cell (i:=0) (v:= .int .i64 0) rfl
 have hk1:=HD.out.d.cell (i:=1) (v:= .string text) rfl
 have ho0:=HD.out.o.cell (i:=0) (v:= .int .i64 t) rfl
 have ho1:=HD.out.o.cell (i:=1) (v:= .int .i64 q) rfl
 have ho2:=HD.out.o.cell (i:=2) (v:= .slice A2 T.now.op.length c2) rfl
 have ho3:=HD.out.o.cell (i:=3) rfl
 obtain⟨h,hh⟩:∃h,w4.heap.size=h:=⟨_,rfl⟩
 have HGH:Hid (g<h):=by unfold Hid;omega
 clear hgs hs34
 go_upto_region 12 with fail
 have HM:Hid (aD (w4.alloc (.cells #[.int .i64 q,.slice none 0 0] 30)) h 30 [.int .i64 q,.slice none 0 0]):=by
  have:=aD.new w4 30 [.int .i64 q,.slice none 0 0]
  rw[hh] at this;exact this
 have HB5:Hid (Below w4.heap.size w4 (w4.alloc (.cells #[.int .i64 q,.slice none 0 0] 30))):=(Below.refl _ _).alloc (Nat.le_refl _) _
 have HH:=zH hh
 have HSZ5:Hid ((w4.alloc (.cells #[.int .i64 q,.slice none 0 0] 30)).heap.size=h+1):=by unfold Hid;rw[World.size_alloc,hh]
 obtain⟨w5,hw5⟩:∃w5,w4.alloc (.cells #[.int .i64 q,.slice none 0 0] 30)=w5:=⟨_,rfl⟩
 rw[hw5] at HM HB5 HSZ5⊢
 clear hw5 hh
 clear hx0 hx1 hx2 hx3 hk0 hk1 ho0 ho1 ho2 ho3
 have HD5:=zH (HD.out.below HB5.out)
 have hx0:=HD5.out.x.cell (i:=0) (v:= .int .i64 t) rfl
 have hx1:=HD5.out.x.cell (i:=1) (v:= .int .i64 q) rfl
 have hk0:=HD5.out.d.cell (i:=0) (v:= .int .i64 0) rfl
 have hk1:=HD5.out.d.cell (i:=1) (v:= .string text) rfl
 have HTI:Hid (∀W:World,Calls Tryz.prog 67 #[.int .i64 t,.string text] W fun e w' =>e= .returned (.int .i64 tr)∧Below W.heap.size W w'):=fun W=>y4 HTR W hx9
 have HBO:Hid (∀W:World,Calls Tryz.prog 66 #[.int .i64 q,.int .i64 tr] W fun e w' =>e= .returned (.int .i64 L)∧∃n,w' =W.drewN n):=fun W=>by
  have:=tA q tr HQ.out.1 HQ.out.2 HTR0.out.1 HTR0.out.2 W
  rw[HLL.out] at this;exact this
 go_upto_region 13 with fail
 go_region_held3 (fun w' =>w'.cell? ⟨w.heap.size,0,none⟩=some (.int .i64 t)∧w'.cell? ⟨w.heap.size,1,none⟩=some (.int .i64 q)∧w'.cell? ⟨w.heap.size+1,1,none⟩=some (.string text))
  (first|exact HK3.out|exact HK2.out|exact HK1.out|exact⟨hx0,hx1,hk1⟩|go_keep)
  (first
   |(go_at_call 67;refine(HTI.out _).mono ?_;rintro e w6 ⟨rfl,hb⟩;have HB6:=zH (aA (aE HB5.out 1) hb);have HD6:=zH (HD.out.below HB6.out);have HM6:=zH (aD.below (aD.drew HM.out) hb);have HK1:=zH (And.intro (HD6.out.x.cell (i:=0) (v:= .int .i64 t) rfl) (And.intro (HD6.out.x.cell (i:=1) (v:= .int .i64 q) rfl) (HD6.out.d.cell (i:=1) (v:= .string text) rfl)));clear hb)
   |(go_at_call 66;refine(HBO.out _).mono ?_;rintro e w7 ⟨rfl,n,rfl⟩;have hm0:=(HM6.out.drewN n).cell (i:=0) (v:= .int .i64 q) rfl;have hm1:=(HM6.out.drewN n).frozen 0;have HK2:Hid ((w6.drewN n).cell? ⟨w.heap.size,0,none⟩=some (.int .i64 t)∧(w6.drewN n).cell? ⟨w.heap.size,1,none⟩=some (.int .i64 q)∧(w6.drewN n).cell? ⟨w.heap.size+1,1,none⟩=some (.string text)):=HK1.out;have HB7:=zH (EN (aE HB6.out n) (Nat.le_of_eq HH.out) (i:=0) (.int .i64 L));have HM7:Hid (aD ((w6.drewN n).setCell ⟨h,0,none⟩ (.int .i64 L)) h 30 [.int .i64 L,.slice none 0 0]):=(HM6.out.drewN n).set 0 (.int .i64 L);have HD7:=zH (HD.out.below HB7.out);have HK3:=zH (And.intro (HD7.out.x.cell (i:=0) (v:= .int .i64 t) rfl) (And.intro (HD7.out.x.cell (i:=1) (v:= .int .i64 q) rfl) (HD7.out.d.cell (i:=1) (v:= .string text) rfl)))))
 all_goals
  clear hx0 hx1 hk0 hk1 HTI HBO
  obtain⟨w8,hw8⟩:∃w8,(w6.drewN n).setCell ⟨h,0,none⟩ (.int .i64 L)=w8:=⟨_,rfl⟩
  rw[hw8] at HB7 HM7 HD7 HK3⊢
  clear hw8 HK2 HK1 HM6 HM HB6 HB5 HD6 HD5 hm0 hm1
  have HO7:=zH (HO.out.below HB7.out)
  have HP7:=zH (HP.out.below HB7.out)
  have hx0:=HD7.out.x.cell (i:=0) (v:= .int .i64 t) rfl
  have hx1:=HD7.out.x.cell (i:=1) (v:= .int .i64 q) rfl
  have hx2:=HD7.out.x.cell (i:=2) (v:= .slice A T.now.op.length c) rfl
  have hm0:=HM7.out.cell (i:=0) (v:= .int .i64 L) rfl
  have ho0:=HD7.out.o.cell (i:=0) (v:= .int .i64 t) rfl
  have ho1:=HD7.out.o.cell (i:=1) (v:= .int .i64 q) rfl
  have ho2:=HD7.out.o.cell (i:=2) (v:= .slice A2 T.now.op.length c2) rfl
  have ho3:=HD7.out.o.cell (i:=3) (v:= .slice B2 T.past.length d2) rfl
  by_cases hbad:L=0∨L=q
  ·obtain⟨rfl,rfl⟩:=HNO.out (by rw[HTQ.out.2];exact hbad)
   have hl0:(L==0)=true∨(L==0)=false:=by cases (L==0)<;>simp
   have hlq:(L==0)=false→(L==q)=true:=fun h=>by
    rcases hbad with h1|h1
    ·rw[h1] at h;cases h
    ·rw[h1];simp
   clear hbad
   obtain⟨⟨⟨ha0,ha1,ha2,ha3,ha4,ha5,ha6,ha7⟩,⟨hb2,hb3⟩,⟨hb4,hb5⟩,⟨hb6,hb7⟩⟩,HOUT,HIN,HBE⟩:=lX HD7.out (r8 HO7.out HP7.out)
   rcases hl0 with hl0|hl0
   ·clear hlq
    go_wp2_with fail
    refine bodyPost_ret_by (aU (b:=w.heap.size+2) rfl rfl rfl HOUT) rfl ⟨A2,_,c2,B2,_,d2,by rw[HTQ.out.1,HTQ.out.2];rfl,HIN.out,HBE.out⟩
   ·have hlq:=hlq hl0
    go_wp2_with fail
    refine bodyPost_ret_by (aU (b:=w.heap.size+2) rfl rfl rfl HOUT) rfl ⟨A2,_,c2,B2,_,d2,by rw[HTQ.out.1,HTQ.out.2];rfl,HIN.out,HBE.out⟩
  ·have hl0:(L==0)=false:=by rw[beq_eq_false_iff_ne];exact fun h=>hbad (.inl h)
   have hlq:(L==q)=false:=by rw[beq_eq_false_iff_ne];exact fun h=>hbad (.inr h)
   obtain⟨hXE,rfl⟩:=HYES.out (fun h=>hbad (.inl h)) (fun h=>hbad (.inr (h.trans HTQ.out.2)))
   have HXE:=zH hXE
   clear hXE
   clear hbad
   go_wp2_with fail
   clear hx0 hx1 hx2 hm0 ho0 ho1 ho2 ho3 hl0 hlq HK3 HD7 HO7 HP7
   have HO8:Hid (aK w8 (h+1) (.slice none 0 0) []):=aK.nil _ _
   go_loopw [9] (fun i wr=>∃(j:Nat) (o' :Value) (ys:List ByteArray),j≤T.now.op.length∧i= .int .i64 j∧Hid (ys=(T.now.op.take j).filter fun s=> !aH.sett t L s)∧Hid (Below w4.heap.size w4 wr)∧Hid (aD wr h 30 [.int .i64 L,o'])∧Hid (aK wr (h+1) o' ys)) (fun i _=>T.now.op.length-(Go.RowKit.intOf i).toNat)
   case atStart=>exact⟨0,_,[],Nat.zero_le _,rfl,rfl,HB7,HM7,HO8⟩
   case round=>
    obtain⟨j,o',ys,hj,rfl,HYS,HB,HM,HOW⟩:=hrel
    have HDR:=zH (HD.out.below HB.out)
    have hx0:=HDR.out.x.cell (i:=0) (v:= .int .i64 t) rfl
    have hx2:=HDR.out.x.cell (i:=2) (v:= .slice A T.now.op.length c) rfl
    have hm0:=HM.out.cell (i:=0) (v:= .int .i64 L) rfl
    have hm1:=HM.out.cell (i:=1) (v:=o') rfl
    by_cases hlt:j<T.now.op.length
    ·obtain⟨b,off,x,rfl,hcx4,hx,hbl⟩:=(HT.out.hA.below HD.out.b).elem hlt
     have HXW:Hid (∀W:World,Below w4.heap.size w4 W→W.cell? ⟨w.heap.size,0,none⟩=some (.int .i64 t)∧W.cell? ⟨w.heap.size,2,none⟩=some (.slice (some ⟨b,off,none⟩) T.now.op.length c)∧W.cell? ⟨b,off+j,none⟩=some (.string x)):=fun W hW=>
      ⟨(HD.out.below hW).x.cell (i:=0) rfl,(HD.out.below hW).x.cell (i:=2) rfl,(Below.cell hW (p:=⟨b,off+j,none⟩) hbl.out).trans hcx4⟩
     have hcx:=(HXW.out _ HB.out).2.2
     obtain⟨v,HV⟩:∃v,Hid (aH.sett t L x=v):=⟨_,rfl⟩
     have HSX:=zH (HSEN.out x (mT hx))
     have HST:Hid (∀W:World,Calls Tryz.prog 65 #[.int .i64 t,.int .i64 L,.string x] W fun e w' =>e= .returned (.bool v)∧Below W.heap.size W w'):=fun W=>vQ HSX HV W HL0.out.1 HL0.out.2
     have HFS:=zH (yR (t:=t) (L:=L) hx.out)
     rw[HV.out] at HFS
     clear hcx4
     go_wp2_with fail
     go_region_held3 (fun w' =>w'.cell? ⟨w.heap.size,0,none⟩=some (.int .i64 t)∧w'.cell? ⟨h,0,none⟩=some (.int .i64 L)∧w'.cell? ⟨w.heap.size,2,none⟩=some (.slice (some ⟨b,off,none⟩) T.now.op.length c)∧w'.cell? ⟨b,off+j,none⟩=some (.string x))
      (first|exact HK1.out|exact⟨hx0,hm0,hx2,hcx⟩|go_keep)
      (first
       |(go_at_call 65;refine(HST.out _).mono ?_;rintro e w9 ⟨rfl,hb⟩;have HB9:=zH (aA (aE HB.out 1) hb);have HM9:=zH (aD.below (aD.drew HM.out) hb);have HOW9:=zH ((HOW.out.drewN 1).below hb);have HK1:=zH (And.intro (HXW.out _ HB9.out).1 (And.intro (HM9.out.cell (i:=0) (v:= .int .i64 L) rfl) (HXW.out _ HB9.out).2));clear hb))
     all_goals
      clear hx0 hx2 hm0 hm1 hcx HDR
      cases v
      ·have HYN:Hid (ys++[x]=(T.now.op.take (j+1)).filter fun s=> !aH.sett t L s):=by
        unfold Hid
        rw[HFS.out,←HYS.out];simp
       obtain⟨Ao,co,hoe,_⟩:=HOW9.out.form
       obtain⟨no,hno⟩:∃no,ys.length=no:=⟨_,rfl⟩
       rw[hno] at hoe
       subst hoe
       have HLN:Hid (ys.length+1≤4194304):=by
        unfold Hid
        rw[HYS.out]
        have:=List.length_filter_le (fun s=> !aH.sett t L s) (T.now.op.take j)
        rw[List.length_take] at this
        omega
       have HSB:Hid (h+1≤(w9.drew.alloc (.cells #[.string x] 9)).heap.size):=by
        unfold Hid
        have h1:h<w9.heap.size:=HM9.out.lt
        rw[World.size_alloc]
        show h+1≤w9.heap.size+1
        omega
       have HOA:Hid (aK (w9.drew.alloc (.cells #[.string x] 9)) (h+1) (.slice Ao no co) ys):=(HOW9.out.drewN 1).below ((Below.refl _ _).alloc (Nat.le_refl _) _)
       have HLT1:Hid (a7 (w9.drew.alloc (.cells #[.string x] 9)) (some ⟨w9.heap.size,0,none⟩) [x]):=oH w9.drew x
       have hx2:=(HXW.out _ HB9.out).2.1
       have hcx:=(HXW.out _ HB9.out).2.2
       have hm1:=HM9.out.cell (i:=1) (v:= .slice Ao no co) rfl
       have huA:(w9.drew.alloc (.cells #[.string x] 9)).cell? ⟨h,1,none⟩=some (.slice Ao no co):=(aD.alloc (W:=w9.drew) (aD.drew HM9.out) _).cell rfl
       have huB:(w9.alloc (.cells #[.string x] 9)).cell? ⟨h,1,none⟩=some (.slice Ao no co):=(aD.alloc (W:=w9) HM9.out _).cell rfl
       clear HK1 hno
       go_wp2_with fail
       refine wp_region_held_drew (S:=(fun w' =>w'.cell? ⟨w.heap.size,2,none⟩=some (.slice (some ⟨b,off,none⟩) T.now.op.length c)∧w'.cell? ⟨b,off+j,none⟩=some (.string x))) (by kernel_rfl) ?_ (fun hHeld=> ?_)
       ·exact⟨hx2,hcx⟩
       refine zT 0 (h:=?_)
       try simp only[Act.put,List.setIfInBounds_toArray]
       refine zT 2 (h:=?_)
       try simp only[Act.put]
       refine zT 3 (h:=?_)
       try simp only[Act.put]
       refine zT 4 (h:=?_)
       try simp only[Act.put]
       refine zT 5 (h:=?_)
       try simp only[Act.put]
       refine zT 6 (h:=?_)
       try simp only[Act.put]
       refine zT 7 (h:=?_)
       try simp only[Act.put]
       refine wpAnyH_ready (rs:=[1,8]) (by kernel_rfl) (by simp) ?_
       refine AllReadyH.cons rfl (fun K hK=> ?_) ?_
       ·go_simp
        refine hK.out _ _ ?_ (fun hHeld=> ?_)
        ·(first|exact HK3.out|exact HK2.out|exact⟨hx2,hcx⟩|go_keep)
        clear hK K
        try simp only[Act.put,zS]
        refine wpAnyH_ready (rs:=[8]) (by kernel_rfl) (by simp) ?_
        refine AllReadyH.cons rfl (fun K hK=> ?_) ?_
        ·go_simp
         refine hK.out _ _ ?_ (fun hHeld=> ?_)
         ·(first|exact HK3.out|exact HK2.out|exact⟨hx2,hcx⟩|go_keep)
         clear hK K
         try simp only[Act.put,zS]
         refine wpAnyH_ready (rs:=[9]) (by kernel_rfl) (by simp) ?_
         refine AllReadyH.cons rfl (fun K hK=> ?_) ?_
         ·refine d0 rfl _ _ rfl (h+1) (.slice Ao no co) ys [x] rfl HOA.out (some ⟨w9.heap.size,0,none⟩) 1 1 rfl rfl (Nat.le_refl _) HLT1.out HLN.out HSB.out ?_;intro v1 w10 hr1 hg1;obtain⟨A3,n3,c3,rfl,hb1,⟨hu1,hu2⟩,hu0,hb2,hm3,hr3⟩:=DC HB9.out HM9.out HOW9.out HH.out hr1 hg1;have HK2:=zH (HXW.out _ hb1).2;have HK3:=zH (HXW.out _ hb2).2;have HB10:=zH hb2;have HM10:=zH hm3;have HR10:=zH hr3;clear hr1 hg1 hb1 hu0 hb2 hm3 hr3
          refine hK.out _ _ ?_ (fun hHeld=> ?_)
          ·(first|exact HK3.out|exact HK2.out|exact⟨hx2,hcx⟩|go_keep)
          clear hK K
          try simp only[Act.put,List.setIfInBounds_toArray]
          refine zT 10 (h:=?_)
          try simp only[Act.put]
          refine wpAnyH_ready (rs:=[11]) (by kernel_rfl) (by simp) ?_
          refine AllReadyH.cons rfl (fun K hK=> ?_) ?_
          ·go_simp
           refine hK.out _ _ ?_ (fun hHeld=> ?_)
           ·(first|exact HK3.out|exact HK2.out|exact⟨hx2,hcx⟩|go_keep)
           clear hK K
           try simp only[Act.put]
           refine wpAnyH_done (by kernel_rfl) ?_ _
           go_wp2_with fail
           go_roundw
           case rel=>exact⟨j+1,_,_,by omega,by go_num,HYN,HB10,HM10,HR10⟩
           case measure=>simp[Go.RowKit.intOf];omega
          exact AllReadyH.nil
         exact AllReadyH.nil
        exact AllReadyH.nil
       refine AllReadyH.cons rfl (fun K hK=> ?_) ?_
       ·go_simp
        refine hK.out _ _ ?_ (fun hHeld=> ?_)
        ·(first|exact HK3.out|exact HK2.out|exact⟨hx2,hcx⟩|go_keep)
        clear hK K
        try simp only[Act.put,zS]
        refine wpAnyH_ready (rs:=[1]) (by kernel_rfl) (by simp) ?_
        refine AllReadyH.cons rfl (fun K hK=> ?_) ?_
        ·go_simp
         refine hK.out _ _ ?_ (fun hHeld=> ?_)
         ·(first|exact HK3.out|exact HK2.out|exact⟨hx2,hcx⟩|go_keep)
         clear hK K
         try simp only[Act.put,zS]
         refine wpAnyH_ready (rs:=[9]) (by kernel_rfl) (by simp) ?_
         refine AllReadyH.cons rfl (fun K hK=> ?_) ?_
         ·refine d0 rfl _ _ rfl (h+1) (.slice Ao no co) ys [x] rfl HOA.out (some ⟨w9.heap.size,0,none⟩) 1 1 rfl rfl (Nat.le_refl _) HLT1.out HLN.out HSB.out ?_;intro v1 w10 hr1 hg1;obtain⟨A3,n3,c3,rfl,hb1,⟨hu1,hu2⟩,hu0,hb2,hm3,hr3⟩:=DC HB9.out HM9.out HOW9.out HH.out hr1 hg1;have HK2:=zH (HXW.out _ hb1).2;have HK3:=zH (HXW.out _ hb2).2;have HB10:=zH hb2;have HM10:=zH hm3;have HR10:=zH hr3;clear hr1 hg1 hb1 hu0 hb2 hm3 hr3
          refine hK.out _ _ ?_ (fun hHeld=> ?_)
          ·(first|exact HK3.out|exact HK2.out|exact⟨hx2,hcx⟩|go_keep)
          clear hK K
          try simp only[Act.put,List.setIfInBounds_toArray]
          refine zT 10 (h:=?_)
          try simp only[Act.put]
          refine wpAnyH_ready (rs:=[11]) (by kernel_rfl) (by simp) ?_
          refine AllReadyH.cons rfl (fun K hK=> ?_) ?_
          ·go_simp
           refine hK.out _ _ ?_ (fun hHeld=> ?_)
           ·(first|exact HK3.out|exact HK2.out|exact⟨hx2,hcx⟩|go_keep)
           clear hK K
           try simp only[Act.put]
           refine wpAnyH_done (by kernel_rfl) ?_ _
           go_wp2_with fail
           go_roundw
           case rel=>exact⟨j+1,_,_,by omega,by go_num,HYN,HB10,HM10,HR10⟩
           case measure=>simp[Go.RowKit.intOf];omega
          exact AllReadyH.nil
         exact AllReadyH.nil
        exact AllReadyH.nil
       exact AllReadyH.nil
      ·have HYN:Hid (ys=(T.now.op.take (j+1)).filter fun s=> !aH.sett t L s):=by
        unfold Hid
        rw[HFS.out,←HYS.out];simp
       go_wp2_with fail
       go_roundw
       case rel=>exact⟨j+1,o',ys,by omega,by go_num,HYN,HB9,HM9,HOW9⟩
       case measure=>simp[Go.RowKit.intOf];omega
    ·obtain rfl:j=T.now.op.length:=by omega
     rw[List.take_length] at HYS
     have HDR:=zH (HD.out.below HB.out)
     have HOR:=zH (HO.out.below HB.out)
     have HPR:=zH (HP.out.below HB.out)
     have HYR:Hid (aK wr (w.heap.size+3) o' ys):=HOW.out.base (by have:=HDR.out.lo;have:=HGH.out;omega)
     obtain⟨y,HYE⟩:∃y:St ByteArray,Hid (y=⟨L,ys⟩):=⟨_,rfl⟩
     have HXP:Hid (X=iG T y):=by unfold Hid;rw[HXE.out,HYE.out,HYS.out,HTQ.out.1]
     clear HXE HYS HOW
     have ho1:=HDR.out.o.cell (i:=1) (v:= .int .i64 q) rfl
     have ho2:=HDR.out.o.cell (i:=2) (v:= .slice A2 T.now.op.length c2) rfl
     have ho3:=HDR.out.o.cell (i:=3) (v:= .slice B2 T.past.length d2) rfl
     have HSZR:Hid (w.heap.size+3≤wr.heap.size):=by unfold Hid;have:=HDR.out.o.lt;have:=HDR.out.lo;omega
     have HNOW:Hid (T.now=⟨q,T.now.op⟩):=by unfold Hid;rw[←HTQ.out.2]
     have HPH:Hid (∀k,(Value.slice B2 T.past.length d2).ownBlock=some k→k<h):=fun k hk=>by have:=HLT.out.2 k hk;have:=HGH.out;omega
     have HPL:Hid (T.past.length≤1048576):=hpl
     have HAP:=zH (eC HOR.out HPR.out.row (by decide))
     obtain⟨l,HLE⟩:∃l,Hid (T.past++[(⟨q,T.now.op⟩:St ByteArray)]=l):=⟨_,rfl⟩
     have HLP:Hid (l=T.past++[T.now]):=by unfold Hid;rw[←HLE.out,←HNOW.out]
     have HXL:Hid (X=⟨T.things,⟨L,ys⟩,eD l⟩):=by unfold Hid;rw[HXP.out,HYE.out,HLP.out];rfl
     go_upto_region 24 with fail
     go_upto_region 25 with(at_builtin;refine F7 rfl _ _ rfl (w.heap.size+3) (.slice B2 T.past.length d2) (.slice A2 T.now.op.length c2) vs T.past ⟨q,T.now.op⟩ rfl HPR.out HOR.out rfl HPL.out HSZR.out HAP.out ?_;intro v2 w10 hx2 hg2;rw[HLE.out] at hx2;obtain⟨A3,n3,c3,rfl,hn3,hnc3,hcm3,⟨hp0,hp1⟩,hd11,hp11,hy11,hm11⟩:=CU HDR.out HM.out HYR.out HPR.out HPH.out HGH.out hx2 hg2;have HN3:=zH hn3;have HCM3:=zH hcm3;have HD11:=zH hd11;have HP11:=zH hp11;have HY11:=zH hy11;have HM11:=zH hm11;clear hx2 hg2 hn3 hcm3 hd11 hp11 hy11 hm11 ho1 ho2 ho3)
     obtain⟨w11,hw11⟩:∃w11,w10.setCell ⟨g,3,none⟩ (.slice A3 n3 c3)=w11:=⟨_,rfl⟩
     rw[hw11] at HD11 HP11 HY11 HM11⊢
     clear hw11 hp0 hp1
     obtain⟨Ao,co,hoe,hoc,hom,_⟩:=HY11.out.form
     obtain⟨no,hno⟩:∃no,ys.length=no:=⟨_,rfl⟩
     rw[hno] at hoe
     subst hoe
     have HNO2:=zH hno
     clear hno hoc hom
     have ho3:=HD11.out.o.cell (i:=3) (v:= .slice A3 n3 c3) rfl
     have hn9:n3≤9223372036854775807:=by have:=HCM3.out;unfold maxLen at this;omega
     by_cases hl:10<n3
     ·have hd:decide (10<n3)=true:=decide_eq_true hl
      obtain⟨b3,off3,rfl⟩:∃b3 off3,A3=some ⟨b3,off3,none⟩:=by
       obtain⟨_,_,e,_,_,h6,_⟩:=HP11.out.form
       cases e
       obtain⟨b,off,h,_⟩:=h6 (by have:=HN3.out;omega)
       exact⟨b,off,h⟩
      obtain⟨⟨hq0,hq1⟩,HD12⟩:=HD11.out.put3 (.slice (some ⟨b3,off3+2,none⟩) (n3-1) (c3-1))
      have HP12:=zH (HP11.out.setBox (i:=3) (u:= .slice (some ⟨b3,off3+2,none⟩) (n3-1) (c3-1)) HD11.out.o (by decide) (by decide))
      have HY12:=zH (HY11.out.setBox (i:=3) (u:= .slice (some ⟨b3,off3+2,none⟩) (n3-1) (c3-1)) HD11.out.o (by decide))
      have HM12:=zH (HM11.out.other (a:=g) (i:=3) (Nat.ne_of_lt HGH.out) (.slice (some ⟨b3,off3+2,none⟩) (n3-1) (c3-1)))
      go_upto_region 27 with fail
      obtain⟨w12,hw12⟩:∃w12,w11.setCell ⟨g,3,none⟩ (.slice (some ⟨b3,off3+2,none⟩) (n3-1) (c3-1))=w12:=⟨_,rfl⟩
      rw[hw12] at HD12 HP12 HY12 HM12⊢
      clear hw12 hq0 hq1 ho3 hd HD11 HP11 HY11 HM11
      have hm0:=HM12.out.cell (i:=0) (v:= .int .i64 L) rfl
      have hm1:=HM12.out.cell (i:=1) (v:= .slice Ao no co) rfl
      obtain⟨⟨hp0,hp1,hp2,hp3,hp4,hp5⟩,HD13⟩:=HD12.out.put12 (.int .i64 L) (.slice Ao no co)
      have HP13:=zH (HP12.out.set12 HD12.out.o (.int .i64 L) (.slice Ao no co))
      have HY13:=zH (HY12.out.set12 HD12.out.o (.int .i64 L) (.slice Ao no co))
      go_upto_region 28 with fail
      obtain⟨w13,hw13⟩:∃w13,(w12.setCell ⟨g,1,none⟩ (.int .i64 L)).setCell ⟨g,2,none⟩ (.slice Ao no co)=w13:=⟨_,rfl⟩
      rw[hw13] at HD13 HP13 HY13⊢
      clear hw13 hm0 hm1 hp0 hp1 hp2 hp3 hp4 hp5
      have ho0:=HD13.out.o.cell (i:=0) rfl
      have ho1:=HD13.out.o.cell (i:=1) rfl
      have ho2:=HD13.out.o.cell (i:=2) rfl
      have ho3:=HD13.out.o.cell (i:=3) rfl
      have HTI:Hid (f9 w13 (w.heap.size+3) X Ao no co (some ⟨b3,off3+2,none⟩) (n3-1) (c3-1)):=by
       rw[HXL.out]
       have:=xO (t:=T.things) (y:=⟨L,ys⟩) (show aK w13 (w.heap.size+3) (.slice Ao ys.length co) ys by rw[HNO2.out];exact HY13.out) HP13.out
       obtain⟨b,off,e,h⟩:=this.2 (by have:=HN3.out;omega);cases e;rw[←HN3.out,HNO2.out] at h;exact h
      obtain⟨⟨⟨ha0,ha1,ha2,ha3,ha4,ha5,ha6,ha7⟩,⟨hb2,hb3⟩,⟨hb4,hb5⟩,⟨hb6,hb7⟩⟩,HOUT,HIN,HBE⟩:=lX HD13.out HTI.out
      go_wp2_with fail
      refine bodyPost_ret_by (aU (b:=w.heap.size+2) rfl rfl rfl HOUT) rfl ⟨Ao,_,co,_,_,_,by rw[show X.things=t from(by rw[HXL.out];exact HTQ.out.1),show X.now.known=L from(by rw[HXL.out])];rfl,HIN.out,HBE.out⟩
     ·have hd:decide (10<n3)=false:=decide_eq_false hl
      have HD12:=HD11
      have HP12:=HP11
      have HY12:=HY11
      have HM12:=HM11
      go_upto_region 27 with fail
      obtain⟨w12,hw12⟩:∃w12,w11=w12:=⟨_,rfl⟩
      subst hw12
      clear ho3 hd HD11 HP11 HY11 HM11
      have hm0:=HM12.out.cell (i:=0) (v:= .int .i64 L) rfl
      have hm1:=HM12.out.cell (i:=1) (v:= .slice Ao no co) rfl
      obtain⟨⟨hp0,hp1,hp2,hp3,hp4,hp5⟩,HD13⟩:=HD12.out.put12 (.int .i64 L) (.slice Ao no co)
      have HP13:=zH (HP12.out.set12 HD12.out.o (.int .i64 L) (.slice Ao no co))
      have HY13:=zH (HY12.out.set12 HD12.out.o (.int .i64 L) (.slice Ao no co))
      go_upto_region 28 with fail
      obtain⟨w13,hw13⟩:∃w13,(w11.setCell ⟨g,1,none⟩ (.int .i64 L)).setCell ⟨g,2,none⟩ (.slice Ao no co)=w13:=⟨_,rfl⟩
      rw[hw13] at HD13 HP13 HY13⊢
      clear hw13 hm0 hm1 hp0 hp1 hp2 hp3 hp4 hp5
      have ho0:=HD13.out.o.cell (i:=0) rfl
      have ho1:=HD13.out.o.cell (i:=1) rfl
      have ho2:=HD13.out.o.cell (i:=2) rfl
      have ho3:=HD13.out.o.cell (i:=3) rfl
      have HTI:Hid (f9 w13 (w.heap.size+3) X Ao no co A3 n3 c3):=by
       rw[HXL.out]
       have:=xO (t:=T.things) (y:=⟨L,ys⟩) (show aK w13 (w.heap.size+3) (.slice Ao ys.length co) ys by rw[HNO2.out];exact HY13.out) HP13.out
       have h:=this.1 (by have:=HN3.out;omega);rw[←HN3.out,HNO2.out] at h;exact h
      obtain⟨⟨⟨ha0,ha1,ha2,ha3,ha4,ha5,ha6,ha7⟩,⟨hb2,hb3⟩,⟨hb4,hb5⟩,⟨hb6,hb7⟩⟩,HOUT,HIN,HBE⟩:=lX HD13.out HTI.out
      go_wp2_with fail
      refine bodyPost_ret_by (aU (b:=w.heap.size+2) rfl rfl rfl HOUT) rfl ⟨Ao,_,co,_,_,_,by rw[show X.things=t from(by rw[HXL.out];exact HTQ.out.1),show X.now.known=L from(by rw[HXL.out])];rfl,HIN.out,HBE.out⟩
end Go.Proofs.YtfhjcacfchkdpaaGreatDoor

/-
  What the proofs of this seat's statements share (TkrA, TlkI, TlkY).
-/
import Derived.Test.YtfhjcacfchkdpaaGreatDoorU24
set_option maxRecDepth 100000
set_option maxHeartbeats 32000000
namespace Go.Proofs.YtfhjcacfchkdpaaGreatDoor
open Go.RowKit
def dM(w:World)(vs:List (Int×Value))(xs:List (St ByteArray)):Prop:=vs.length=xs.length∧∀(i:Nat) (x:St ByteArray),xs[i]? =some x→∃A c,vs[i]? =some (x.known,.slice A x.op.length c)∧x.op.length≤c∧c≤maxLen∧a7 w A x.op
theorem dM.below{w w' :World}{vs:List (Int×Value)}{xs:List (St ByteArray)}(h:dM w vs xs)(hb:Below w.heap.size w w'):dM w' vs xs:=
 ⟨h.1,fun i x hx=>by obtain⟨A,c,h1,h2,h3,h4⟩:=h.2 i x hx;exact⟨A,c,h1,h2,h3,h4.below hb⟩⟩
theorem dM.nil(w:World):dM w [] []:=⟨rfl,fun i x h=>by simp at h⟩
theorem dM.snoc{w:World}{vs:List (Int×Value)}{xs:List (St ByteArray)}{x:St ByteArray}{A:Option Addr}{c:Nat}(h:dM w vs xs)(h1:x.op.length≤c)(h2:c≤maxLen)(h3:a7 w A x.op):dM w (vs++[(x.known,.slice A x.op.length c)]) (xs++[x]):=by
 refine⟨by rw[List.length_append,List.length_append,h.1];rfl,fun i y hy=> ?_⟩
 by_cases hi:i<xs.length
 ·rw[List.getElem?_append_left hi] at hy
  obtain⟨A',c',a1,a2⟩:=h.2 i y hy
  exact⟨A',c',by rw[List.getElem?_append_left (by rw[h.1];exact hi)];exact a1,a2⟩
 ·have hi2:i=xs.length:=by
   have:=(List.getElem?_eq_some_iff.1 hy).1
   simp at this;omega
  subst hi2
  rw[List.getElem?_append_right (Nat.le_refl _),Nat.sub_self] at hy
  cases hy
  exact⟨A,c,by rw[List.getElem?_append_right (by rw[h.1];exact Nat.le_refl _),h.1,Nat.sub_self];rfl,h1,h2,h3⟩
theorem dM.one{w:World}{vs:List (Int×Value)}{xs:List (St ByteArray)}(h:dM w vs xs):∀u∈bQ vs,u.oneCell' =true:=by
 intro u hu
 unfold bQ at hu
 obtain⟨v,hv,hm⟩:=List.mem_flatMap.1 hu
 obtain⟨i,hi⟩:=List.mem_iff_getElem?.1 hv
 have hil:i<xs.length:=by rw[←h.1];exact(List.getElem?_eq_some_iff.1 hi).1
 obtain⟨A,c,h1,_⟩:=h.2 i xs[i] (List.getElem?_eq_getElem hil)
 rw[hi] at h1
 cases h1
 rw[List.mem_cons,List.mem_singleton] at hm
 rcases hm with rfl|rfl<;>rfl
theorem wP{w:World}{B:Option Addr}{xs:List (St ByteArray)}(h:b6 w B xs):∃vs,dM w vs xs∧∀b off,B=some ⟨b,off,none⟩→∀(j:Nat) (u:Value),(bQ vs)[j]? =some u→w.cell? ⟨b,off+j,none⟩=some u:=by
 by_cases hp:0<xs.length
 ·obtain⟨b,off,rfl,hlt,hc⟩:=h hp
  refine⟨xs.mapIdx fun i x=>(x.known,(w.cell? ⟨b,off+i*2+1,none⟩).getD undef),⟨by rw[List.length_mapIdx],fun i x hx=> ?_⟩,fun b' off' e j u hj=> ?_⟩
  ·obtain⟨A,c,h1,h2,h3,h4,h5⟩:=hc i x hx
   exact⟨A,c,by rw[List.getElem?_mapIdx,hx];simp only[Option.map_some];rw[h2];rfl,h3,h4,h5⟩
  ·cases e
   have hjl:j<xs.length*2:=by
    have:=(List.getElem?_eq_some_iff.1 hj).1
    rw[nO,List.length_mapIdx] at this;exact this
   obtain⟨i,hi,hpar⟩:∃i,i<xs.length∧(j=i*2∨j=i*2+1):=⟨j / 2,by omega,by omega⟩
   have hx:xs[i]? =some xs[i]:=List.getElem?_eq_getElem hi
   obtain⟨A,c,h1,h2,_⟩:=hc i _ hx
   have hv:(xs.mapIdx fun i x=>((x.known,(w.cell? ⟨b,off+i*2+1,none⟩).getD undef):Int×Value))[i]? =some (xs[i].known,.slice A xs[i].op.length c):=by
    rw[List.getElem?_mapIdx,hx];simp only[Option.map_some];rw[h2];rfl
   obtain⟨e1,e2⟩:=gO _ _ _ hv
   rcases hpar with rfl|rfl
   ·rw[e1] at hj
    cases hj
    exact h1
   ·rw[e2] at hj
    cases hj
    rw[←Nat.add_assoc];exact h2
 ·have hn:xs=[]:=List.eq_nil_of_length_eq_zero (by omega)
  subst hn
  exact⟨[],dM.nil w,fun b off _ j u hj=>by simp[bQ] at hj⟩
def US(R:World→Prop):Prop:=∀W W',R W→Below W.heap.size W W'→R W'
structure qL (R:World→Prop) (T:aL) (A:Option Addr) (n c:Nat) (B:Option Addr) (m d:Nat):Prop where
 hn:n=T.now.op.length
 hc:n≤c
 hm:c≤maxLen
 hA:∀W,R W→a7 W A T.now.op
 pn:m=T.past.length
 pc:m≤d
 pm:d≤maxLen
 hP:∃vs,(∀W,R W→dM W vs T.past)∧(∀W,R W→0<T.past.length→∃b off,B=some ⟨b,off,none⟩∧b<W.heap.size∧∀(j:Nat) (u:Value),(bQ vs)[j]? =some u→W.cell? ⟨b,off+j,none⟩=some u)
 fw:US R
theorem OS{W:World}{B:Option Addr}{vs:List (Int×Value)}{xs:List (St ByteArray)}(hp:dM W vs xs)(hc:0<xs.length→∃b off,B=some ⟨b,off,none⟩∧b<W.heap.size∧∀(j:Nat) (u:Value),(bQ vs)[j]? =some u→W.cell? ⟨b,off+j,none⟩=some u):b6 W B xs:=by
 intro hpos
 obtain⟨b,off,e,hlt,hcc⟩:=hc hpos
 refine⟨b,off,e,hlt,fun i x hx=> ?_⟩
 obtain⟨A,c,h1,h2,h3,h4⟩:=hp.2 i x hx
 obtain⟨e1,e2⟩:=gO vs i _ h1
 exact⟨A,c,hcc _ _ e1,by rw[Nat.add_assoc];exact hcc _ _ e2,h2,h3,h4⟩
section
variable {R:World→Prop} {T:aL} {A B:Option Addr} {n c m d:Nat} {W:World}
theorem qL.at_(h:qL R T A n c B m d)(hr:R W):bN W T A n c B m d:=by
 obtain⟨vs,h1,h2⟩:=h.hP
 exact⟨h.hn,h.hc,h.hm,h.hA W hr,h.pn,h.pc,h.pm,OS (h1 W hr) (h2 W hr)⟩
theorem qL.of_at{w0:World}(h:bN w0 T A n c B m d):qL (Below w0.heap.size w0) T A n c B m d:=by
 obtain⟨vs,hp,hc⟩:=wP h.hB
 refine⟨h.hn,h.hc,h.hm,fun W hb=>h.hA.below hb,h.pn,h.pc,h.pm,⟨vs,fun W hb=>hp.below hb,fun W hb hpos=> ?_⟩,fun W W' h1 h2=>aA h1 h2⟩
 obtain⟨b,off,e,hlt,_⟩:=h.hB hpos
 exact⟨b,off,e,Nat.lt_of_lt_of_le hlt hb.size,fun j u hj=>(Below.cell hb (p:=⟨b,off+j,none⟩) hlt).trans (hc b off e j u hj)⟩
theorem qL.last(h:qL R T A n c B m d){W0:World}(hr0:R W0){j:Nat}{x:St ByteArray}(hj:T.past.length=j+1)(hx:T.past[j]? =some x):
  ∃Ai ci b off,B=some ⟨b,off,none⟩∧x.op.length≤ci∧ci≤maxLen∧∀W,R W→b<W.heap.size∧W.cell? ⟨b,off+j*2,none⟩=some (.int .i64 x.known)∧W.cell? ⟨b,off+j*2+1,none⟩=some (.slice Ai x.op.length ci)∧bN W ⟨T.things,x,T.past.dropLast⟩ Ai x.op.length ci (some ⟨b,off,none⟩) j d:=by
 obtain⟨vs,h1,h2⟩:=h.hP
 obtain⟨Ai,ci,a1,a2,a3,_⟩:=(h1 W0 hr0).2 j x hx
 obtain⟨b,off,e,_⟩:=h2 W0 hr0 (by omega)
 refine⟨Ai,ci,b,off,e,a2,a3,fun W hr=> ?_⟩
 obtain⟨b',off',e',hlt,hcc⟩:=h2 W hr (by omega)
 rw[e] at e'
 cases e'
 obtain⟨Ai',ci',b1,_,_,b4⟩:=(h1 W hr).2 j x hx
 rw[a1] at b1
 cases b1
 obtain⟨e1,e2⟩:=gO vs j _ a1
 have hB:=(h.at_ hr).hB
 rw[e] at hB
 have hpc:=h.pc
 have hpn:=h.pn
 exact⟨hlt,hcc _ _ e1,by rw[Nat.add_assoc];exact hcc _ _ e2,⟨rfl,a2,a3,b4,by show j=T.past.dropLast.length;rw[List.length_dropLast];omega,by omega,h.pm,by show b6 _ _ T.past.dropLast;rw[List.dropLast_eq_take];exact hB.take _⟩⟩
end
def fI(h:Nat)(w0 W:World):Prop:=w0.heap.size≤W.heap.size∧∀k,k<w0.heap.size→k≠h→W.heap[k]? =w0.heap[k]?
theorem fI.refl(h:Nat)(w:World):fI h w w:=⟨Nat.le_refl _,fun _ _ _=>rfl⟩
theorem fI.trans{h:Nat}{w w1 w2:World}(h1:fI h w w1)(h2:fI h w1 w2):fI h w w2:=⟨Nat.le_trans h1.1 h2.1,fun k hk hn=>(h2.2 k (Nat.lt_of_lt_of_le hk h1.1) hn).trans (h1.2 k hk hn)⟩
theorem fI.of_below{h:Nat}{w w1:World}(hb:Below w.heap.size w w1):fI h w w1:=⟨hb.size,fun k hk _=>hb.block k hk⟩
theorem fI.set(h i:Nat)(w:World)(v:Value):fI h w (w.setCell ⟨h,i,none⟩ v):=⟨by rw[show(w.setCell ⟨h,i,none⟩ v).heap.size=w.heap.size by simp[World.setCell]];exact Nat.le_refl _,fun k _ hn=>Below.heap_setCell w ⟨h,i,none⟩ v k (fun e=>hn (by simpa using e))⟩
theorem fI.fwd(h:Nat)(w0:World):US (fI h w0):=fun _ _ h1 h2=>h1.trans (fI.of_below h2)
theorem L7{w0:World}{h:Nat}{T:aL}{A B:Option Addr}{n c m d:Nat}(H:∀W,fI h w0 W→bN W T A n c B m d):qL (fI h w0) T A n c B m d:=by
 have h0:=H w0 (fI.refl h w0)
 obtain⟨vs,hp,hc⟩:=wP h0.hB
 refine⟨h0.hn,h0.hc,h0.hm,fun W hr=>(H W hr).hA,h0.pn,h0.pc,h0.pm,?_,fI.fwd h w0⟩
 by_cases hpos:0<T.past.length
 ·obtain⟨b,off,e,hlt,_⟩:=h0.hB hpos
  have hne:b≠h:=by
   intro hbh
   subst hbh
   have hx:fI b w0 {w0 with heap:=w0.heap.setIfInBounds b (.cells #[] 0)}:=⟨by simp,fun k hk hn=>by simp[Ne.symm hn]⟩
   obtain⟨b',off',e',_,hcc⟩:=(H _ hx).hB hpos
   rw[e] at e'
   cases e'
   obtain⟨Ai,ci,f1,_⟩:=hcc 0 T.past[0] (List.getElem?_eq_getElem hpos)
   simp[World.cell?,hlt] at f1
  have hcell:∀W,fI h w0 W→∀(j:Nat) (u:Value),(bQ vs)[j]? =some u→W.cell? ⟨b,off+j,none⟩=some u:=fun W hr j u hj=>
   (World.cell?_of_block (a:=⟨b,off+j,none⟩) (hr.2 b hlt hne)).trans (hc b off e j u hj)
  refine⟨vs,fun W hr=>⟨hp.1,fun i x hx=> ?_⟩,fun W hr _=>⟨b,off,e,Nat.lt_of_lt_of_le hlt hr.1,hcell W hr⟩⟩
  obtain⟨A0,c0,a1,a2,a3,_⟩:=hp.2 i x hx
  refine⟨A0,c0,a1,a2,a3,?_⟩
  obtain⟨b',off',e',_,hcc⟩:=(H W hr).hB hpos
  rw[e] at e'
  cases e'
  obtain⟨Ai,ci,_,f2,_,_,f5⟩:=hcc i x hx
  have g2:=hcell W hr _ _ (gO vs i _ a1).2
  rw[←Nat.add_assoc,f2] at g2
  cases g2
  exact f5
 ·have hn:T.past=[]:=List.eq_nil_of_length_eq_zero (by omega)
  refine⟨[],fun W _=>by rw[hn];exact dM.nil W,fun W _ h=>absurd h hpos⟩
end Go.Proofs.YtfhjcacfchkdpaaGreatDoor
namespace Go.Proofs.YtfhjcacfchkdpaaGreatDoor
open Go.RowKit
theorem qJ{fn:Func}{r:Tmp}(h:fn.results= #[.cell r 79]){tmps:Array Value}{w:World}{b:Nat}{x y z p:Value}(ht:tmps.getD r undef= .pointer (some ⟨b,0,none⟩))
  (hb:Hid (aD w b 79 [x,y,z,p])):(results fn tmps).run Tryz.prog w= .ok (.agg #[x,y,z,p]) w:=by
 have ht:tmps[r]?.getD undef= .pointer (some ⟨b,0,none⟩):=by simpa using ht
 have hc0:=hb.out.cell (i:=0) (v:=x) rfl
 have hc1:=hb.out.cell (i:=1) (v:=y) rfl
 have hc2:=hb.out.cell (i:=2) (v:=z) rfl
 have hc3:=hb.out.cell (i:=3) (v:=p) rfl
 simp[results,h,ht,go_sem,hc0,hc1,hc2,hc3]
theorem bS{fn:Func}{r q:Tmp}(h:fn.results= #[.cell r 79,.tmp q]){tmps:Array Value}{w:World}{b:Nat}{x y z p v:Value}(ht:tmps.getD r undef= .pointer (some ⟨b,0,none⟩))(hv:tmps.getD q undef=v)
  (hb:Hid (aD w b 79 [x,y,z,p])):(results fn tmps).run Tryz.prog w= .ok (.tuple #[.agg #[x,y,z,p],v]) w:=by
 have ht:tmps[r]?.getD undef= .pointer (some ⟨b,0,none⟩):=by simpa using ht
 have hv:tmps[q]?.getD undef=v:=by simpa using hv
 have hc0:=hb.out.cell (i:=0) (v:=x) rfl
 have hc1:=hb.out.cell (i:=1) (v:=y) rfl
 have hc2:=hb.out.cell (i:=2) (v:=z) rfl
 have hc3:=hb.out.cell (i:=3) (v:=p) rfl
 simp[results,h,ht,hv,go_sem,hc0,hc1,hc2,hc3]
def qB(T:aL)(b:Bool)(R:World→Prop)(w:World)(e:Ending)(w' :World):Prop:=∃A n c B m d,e= .returned (.tuple #[.agg #[.int .i64 T.now.known,.slice A n c,.int .i64 T.things,.slice B m d],.bool b])∧(∀w2,R w2→aX w.heap.size w' w2→bN w2 T A n c B m d)∧Below w.heap.size w w'
theorem AY(w:World)(T1 T2:TypeId)(xs ys:List Value):
  Hid (aD ((w.alloc (.cells xs.toArray T1)).alloc (.cells ys.toArray T2)) w.heap.size T1 xs)∧Hid (aD ((w.alloc (.cells xs.toArray T1)).alloc (.cells ys.toArray T2)) (w.heap.size+1) T2 ys)∧Hid (Below w.heap.size w ((w.alloc (.cells xs.toArray T1)).alloc (.cells ys.toArray T2))):=by
 have h:=aD.new (w.alloc (.cells xs.toArray T1)) T2 ys
 rw[World.size_alloc] at h
 exact⟨(aD.new w T1 xs).alloc _,h,((Below.refl _ _).alloc (Nat.le_refl _) _).alloc (by rw[World.size_alloc];omega) _⟩
theorem pH(w:World)(T1 T2:TypeId)(a b c d e f g h:Value):
  Hid (aD ((w.alloc (.cells #[a,b,c,d] T1)).alloc (.cells #[e,f,g,h] T2)) w.heap.size T1 [a,b,c,d])∧Hid (aD ((w.alloc (.cells #[a,b,c,d] T1)).alloc (.cells #[e,f,g,h] T2)) (w.heap.size+1) T2 [e,f,g,h])∧Hid (Below w.heap.size w ((w.alloc (.cells #[a,b,c,d] T1)).alloc (.cells #[e,f,g,h] T2))):=
 AY w T1 T2 [a,b,c,d] [e,f,g,h]
theorem zQ(t k:Int)(o p:Value)(A B:Option Addr)(n c m d:Nat)(ho:o= .slice A n c)(hp:p= .slice B m d)(w:World):
  Calls Tryz.prog 50 #[.agg #[.int .i64 t,.int .i64 k,o,p]] w fun e w' =>e= .returned (.agg #[.int .i64 k,o,.int .i64 t,p])∧Below w.heap.size w w' :=by
 subst ho hp
 obtain⟨HX,HZ,HB⟩:=pH w 33 79 (.int .i64 t) (.int .i64 k) (.slice A n c) (.slice B m d) (.int .i64 0) (.slice none 0 0) (.int .i64 0) (.slice none 0 0)
 go_enter Tryz.func50,Tryz.ntmps50
 go_upto_region 1 with fail
 obtain⟨W0,hW0⟩:∃W,(w.alloc (.cells #[.int .i64 t,.int .i64 k,.slice A n c,.slice B m d] 33)).alloc (.cells #[.int .i64 0,.slice none 0 0,.int .i64 0,.slice none 0 0] 79)=W:=⟨_,rfl⟩
 rw[hW0] at HX HZ HB⊢
 clear hW0
 have hc0:=HX.out.cell (i:=0) (v:= .int .i64 t) rfl
 have hc1:=HX.out.cell (i:=1) (v:= .int .i64 k) rfl
 have hc2:=HX.out.cell (i:=2) (v:= .slice A n c) rfl
 have hc3:=HX.out.cell (i:=3) (v:= .slice B m d) rfl
 obtain⟨⟨ha0,ha1,ha2,ha3,ha4,ha5,ha6,ha7⟩,⟨hb2,hb3⟩,⟨hb4,hb5⟩,⟨hb6,hb7⟩,HOUT⟩:=HZ.out.store4 (.int .i64 k) (.slice A n c) (.int .i64 t) (.slice B m d)
 have HB5:=zH (bG HB.out (show w.heap.size≤w.heap.size+1 by omega) (.int .i64 k) (.slice A n c) (.int .i64 t) (.slice B m d))
 go_wp2_with fail
 refine bodyPost_ret_by (qJ (b:=w.heap.size+1) rfl rfl HOUT) rfl ⟨rfl,HB5.out⟩
theorem XN(T:aL)(A B:Option Addr)(n c m d:Nat)(text:ByteArray)(R:World→Prop)(w:World)(hT:qL R T A n c B m d)(hbw:R w)(hpl:T.past.length≤1048576)(X:aL)(r:Bool)(hr:(gJ T 2 text=none∧X=T∧r=false)∨(gJ T 2 text=some X∧r=true)):
  Calls Tryz.prog 94 #[.agg #[.int .i64 T.now.known,.slice A n c,.int .i64 T.things,.slice B m d],.string text] w (qB X r R w):=by
 obtain rfl:=hT.hn
 obtain rfl:=hT.pn
 have HT:=zH hT
 have HW:=zH hbw
 have hdo:gJ T 2 text=if text=⟨#[]⟩ then(match T.past.getLast? with|some x=>some ⟨T.things,x,T.past.dropLast⟩|none=>none) else none:=by
  unfold gJ cX
  rw[if_pos rfl,show aH.none=(⟨#[]⟩:ByteArray) from rfl]
  by_cases h:text=⟨#[]⟩
  ·rw[if_pos h,if_pos h]
   cases T.past.getLast? <;>rfl
  ·rw[if_neg h,if_neg h]
 obtain⟨t,ht⟩:∃t,T.things=t:=⟨_,rfl⟩
 obtain⟨k,hk⟩:∃k,T.now.known=k:=⟨_,rfl⟩
 have HTQ:Hid (T.things=t∧T.now.known=k):=⟨ht,hk⟩
 obtain⟨HX,HZ,HB⟩:=pH w 79 79 (.int .i64 k) (.slice A T.now.op.length c) (.int .i64 t) (.slice B T.past.length d) (.int .i64 0) (.slice none 0 0) (.int .i64 0) (.slice none 0 0)
 rw[ht,hk]
 by_cases hte:text=⟨#[]⟩
 ·subst hte
  rw[if_pos rfl] at hdo
  by_cases hp0:T.past.length=0
  ·have hpn:T.past=[]:=List.eq_nil_of_length_eq_zero hp0
   have HXR:Hid (X=T∧r=false):=by
    rw[hdo,hpn] at hr
    rcases hr with⟨_,h2,h3⟩|⟨h2,_⟩
    ·exact⟨h2,h3⟩
    ·cases h2
   obtain⟨hXT,rfl⟩:=HXR.out
   obtain rfl:T=X:=hXT.symm
   have hji:(T.past.length:Int)-1= -1:=by omega
   clear hdo hr hT ht hk hp0 hpn
   go_enter Tryz.func94,Tryz.ntmps94
   go_upto_region 1 with fail
   obtain⟨W0,hW0⟩:∃W,(w.alloc (.cells #[.int .i64 k,.slice A T.now.op.length c,.int .i64 t,.slice B T.past.length d] 79)).alloc (.cells #[.int .i64 0,.slice none 0 0,.int .i64 0,.slice none 0 0] 79)=W:=⟨_,rfl⟩
   rw[hW0] at HX HZ HB⊢
   clear hW0
   have hc0:=HX.out.cell (i:=0) (v:= .int .i64 k) rfl
   have hc1:=HX.out.cell (i:=1) (v:= .slice A T.now.op.length c) rfl
   have hc2:=HX.out.cell (i:=2) (v:= .int .i64 t) rfl
   have hc3:=HX.out.cell (i:=3) (v:= .slice B T.past.length d) rfl
   obtain⟨⟨ha0,ha1,ha2,ha3,ha4,ha5,ha6,ha7⟩,⟨hb2,hb3⟩,⟨hb4,hb5⟩,⟨hb6,hb7⟩,HOUT⟩:=HZ.out.store4 (.int .i64 k) (.slice A T.now.op.length c) (.int .i64 t) (.slice B T.past.length d)
   have HB5:=zH (bG HB.out (show w.heap.size≤w.heap.size+1 by omega) (.int .i64 k) (.slice A T.now.op.length c) (.int .i64 t) (.slice B T.past.length d))
   have HTE:Hid (∀w2,R w2→bN w2 T A _ c B _ d):=fun _ h=>HT.out.at_ h
   go_wp2_with fail
   refine bodyPost_ret_by (bS (b:=w.heap.size+1) rfl rfl rfl HOUT) rfl ⟨A,_,c,B,_,d,by rw[HTQ.out.1,HTQ.out.2];rfl,fun w2 h _=>HTE.out w2 h,HB5.out⟩
  ·obtain⟨j,hjl⟩:∃j,T.past.length=j+1:=⟨T.past.length-1,by omega⟩
   have hjlt:j<T.past.length:=by omega
   have hji:(T.past.length:Int)-1=(j:Int):=by omega
   have hjd:decide ((j:Int)<0)=false:=decide_eq_false (by omega)
   have HXR:Hid (∀x,T.past[j]? =some x→X=⟨T.things,x,T.past.dropLast⟩∧r=true):=fun x hx=>by
    rw[hdo,List.getLast?_eq_getElem?,hjl,Nat.add_sub_cancel,hx] at hr
    rcases hr with⟨h2,_⟩|⟨h2,h3⟩
    ·cases h2
    ·exact⟨(Option.some.inj h2).symm,h3⟩
   have HJL:=zH hjl
   clear hdo hr hT ht hk hp0 hjl
   go_enter Tryz.func94,Tryz.ntmps94
   go_upto_region 1 with fail
   obtain⟨W0,hW0⟩:∃W,(w.alloc (.cells #[.int .i64 k,.slice A T.now.op.length c,.int .i64 t,.slice B T.past.length d] 79)).alloc (.cells #[.int .i64 0,.slice none 0 0,.int .i64 0,.slice none 0 0] 79)=W:=⟨_,rfl⟩
   rw[hW0] at HX HZ HB⊢
   clear hW0
   have hc0:=HX.out.cell (i:=0) (v:= .int .i64 k) rfl
   have hc1:=HX.out.cell (i:=1) (v:= .slice A T.now.op.length c) rfl
   have hc2:=HX.out.cell (i:=2) (v:= .int .i64 t) rfl
   have hc3:=HX.out.cell (i:=3) (v:= .slice B T.past.length d) rfl
   obtain⟨x,hxq⟩:∃x,T.past[j]? =some x:=⟨_,List.getElem?_eq_getElem hjlt⟩
   have hx:=zH hxq
   obtain⟨Ai,ci,b,off,rfl,hle,hmi,hLS⟩:=HT.out.last HW.out HJL.out hxq
   have HLS:=zH hLS
   obtain⟨_,he0,he1,_⟩:=hLS W0 (HT.out.fw _ _ HW.out HB.out)
   clear hLS hxq
   obtain⟨hXE,rfl⟩:=HXR.out x hx.out
   have HXE:=zH hXE
   clear hXE
   have hjp:j≤d:=by have:=HT.out.pc;omega
   have HZD:Hid (aD W0.drew (w.heap.size+1) 79 [.int .i64 0,.slice none 0 0,.int .i64 0,.slice none 0 0]):=HZ.out.drew
   obtain⟨⟨ha0,ha1,ha2,ha3,ha4,ha5,ha6,ha7⟩,⟨hb2,hb3⟩,⟨hb4,hb5⟩,⟨hb6,hb7⟩,HOUT⟩:=HZD.out.store4 (.int .i64 x.known) (.slice Ai x.op.length ci) (.int .i64 t) (.slice (some ⟨b,off,none⟩) j d)
   obtain⟨⟨hz0,hz1,hz2,hz3,hz4,hz5,hz6,hz7⟩,⟨hy2,hy3⟩,⟨hy4,hy5⟩,⟨hy6,hy7⟩,_⟩:=HZ.out.store4 (.int .i64 x.known) (.slice Ai x.op.length ci) (.int .i64 t) (.slice (some ⟨b,off,none⟩) j d)
   have HB5:=zH (bG (aE HB.out 1) (show w.heap.size≤w.heap.size+1 by omega) (.int .i64 x.known) (.slice Ai x.op.length ci) (.int .i64 t) (.slice (some ⟨b,off,none⟩) j d))
   go_upto_region 4 with fail
   have HK2:Hid (((((W0.drew.setCell ⟨w.heap.size+1,0,none⟩ (.int .i64 x.known)).setCell ⟨w.heap.size+1,1,none⟩ (.slice Ai x.op.length ci)).setCell ⟨w.heap.size+1,2,none⟩ (.int .i64 t)).setCell ⟨w.heap.size+1,3,none⟩ (.slice (some ⟨b,off,none⟩) j d)).cell? ⟨w.heap.size,2,none⟩=some (.int .i64 t)∧((((W0.drew.setCell ⟨w.heap.size+1,0,none⟩ (.int .i64 x.known)).setCell ⟨w.heap.size+1,1,none⟩ (.slice Ai x.op.length ci)).setCell ⟨w.heap.size+1,2,none⟩ (.int .i64 t)).setCell ⟨w.heap.size+1,3,none⟩ (.slice (some ⟨b,off,none⟩) j d)).cell? ⟨w.heap.size,3,none⟩=some (.slice (some ⟨b,off,none⟩) T.past.length d)∧
     ((((W0.drew.setCell ⟨w.heap.size+1,0,none⟩ (.int .i64 x.known)).setCell ⟨w.heap.size+1,1,none⟩ (.slice Ai x.op.length ci)).setCell ⟨w.heap.size+1,2,none⟩ (.int .i64 t)).setCell ⟨w.heap.size+1,3,none⟩ (.slice (some ⟨b,off,none⟩) j d)).cell? ⟨b,off+j*2,none⟩=some (.int .i64 x.known)∧((((W0.drew.setCell ⟨w.heap.size+1,0,none⟩ (.int .i64 x.known)).setCell ⟨w.heap.size+1,1,none⟩ (.slice Ai x.op.length ci)).setCell ⟨w.heap.size+1,2,none⟩ (.int .i64 t)).setCell ⟨w.heap.size+1,3,none⟩ (.slice (some ⟨b,off,none⟩) j d)).cell? ⟨b,off+j*2+1,none⟩=some (.slice Ai x.op.length ci)):=by
    have hbw:b<w.heap.size:=by
     exact(HLS.out w HW.out).1
    have h4:=(HX.out.drew).other4 (g:=w.heap.size+1) (by omega) (.int .i64 x.known) (.slice Ai x.op.length ci) (.int .i64 t) (.slice (some ⟨b,off,none⟩) j d)
    refine⟨h4.cell rfl,h4.cell rfl,?_,?_⟩
    ·rw[fT (by omega),fT (by omega),fT (by omega),fT (by omega)];exact he0
    ·rw[fT (by omega),fT (by omega),fT (by omega),fT (by omega)];exact he1
   go_region_held3 (fun w' =>w'.cell? ⟨w.heap.size,2,none⟩=some (.int .i64 t)∧w'.cell? ⟨w.heap.size,3,none⟩=some (.slice (some ⟨b,off,none⟩) T.past.length d)∧w'.cell? ⟨b,off+j*2,none⟩=some (.int .i64 x.known)∧w'.cell? ⟨b,off+j*2+1,none⟩=some (.slice Ai x.op.length ci))
    (first|exact⟨hc2,hc3,he0,he1⟩|exact HK2.out|go_keep)
    (fail)
   all_goals
    have HTX:Hid (∀w2,R w2→bN w2 X Ai x.op.length ci (some ⟨b,off,none⟩) j d):=fun w2 h2=>by
     rw[HXE.out]
     exact(HLS.out w2 h2).2.2.2
    go_wp2_with fail
    refine bodyPost_ret_by (bS (b:=w.heap.size+1) rfl rfl rfl HOUT) rfl ⟨Ai,_,ci,_,_,d,by rw[show X.things=t from(by rw[HXE.out];exact HTQ.out.1),show X.now.known=x.known from(by rw[HXE.out])];rfl,fun w2 h _=>HTX.out w2 h,HB5.out⟩
 ·rw[if_neg hte] at hdo
  have HXR:Hid (X=T∧r=false):=by
   rw[hdo] at hr
   rcases hr with⟨_,h2,h3⟩|⟨h2,_⟩
   ·exact⟨h2,h3⟩
   ·cases h2
  obtain⟨hXT,rfl⟩:=HXR.out
  obtain rfl:T=X:=hXT.symm
  obtain⟨hn1,hn2,hn3⟩:=I5 hte
  have hn4:(text.toList != (ByteArray.mk #[]).toList)=true:=by rw[bne,hn1];rfl
  clear hdo hr hT ht hk hte
  go_enter Tryz.func94,Tryz.ntmps94
  go_upto_region 1 with fail
  obtain⟨W0,hW0⟩:∃W,(w.alloc (.cells #[.int .i64 k,.slice A T.now.op.length c,.int .i64 t,.slice B T.past.length d] 79)).alloc (.cells #[.int .i64 0,.slice none 0 0,.int .i64 0,.slice none 0 0] 79)=W:=⟨_,rfl⟩
  rw[hW0] at HX HZ HB⊢
  clear hW0
  have hc0:=HX.out.cell (i:=0) (v:= .int .i64 k) rfl
  have hc1:=HX.out.cell (i:=1) (v:= .slice A T.now.op.length c) rfl
  have hc2:=HX.out.cell (i:=2) (v:= .int .i64 t) rfl
  have hc3:=HX.out.cell (i:=3) (v:= .slice B T.past.length d) rfl
  obtain⟨⟨ha0,ha1,ha2,ha3,ha4,ha5,ha6,ha7⟩,⟨hb2,hb3⟩,⟨hb4,hb5⟩,⟨hb6,hb7⟩,HOUT⟩:=HZ.out.store4 (.int .i64 k) (.slice A T.now.op.length c) (.int .i64 t) (.slice B T.past.length d)
  have HB5:=zH (bG HB.out (show w.heap.size≤w.heap.size+1 by omega) (.int .i64 k) (.slice A T.now.op.length c) (.int .i64 t) (.slice B T.past.length d))
  have HTE:Hid (∀w2,R w2→bN w2 T A _ c B _ d):=fun _ h=>HT.out.at_ h
  go_wp2_with fail
  refine bodyPost_ret_by (bS (b:=w.heap.size+1) rfl rfl rfl HOUT) rfl ⟨A,_,c,B,_,d,by rw[HTQ.out.1,HTQ.out.2];rfl,fun w2 h _=>HTE.out w2 h,HB5.out⟩
def pE(o:Value)(vs:List (Int×Value)):Prop:=(∀u∈vs,∀k,u.2.ownBlock=some k→o.ownBlock≠some k)∧vs.Pairwise fun u v=>∀k,u.2.ownBlock=some k→v.2.ownBlock≠some k
theorem pE.nil(o:Value):pE o []:=⟨fun u hu=>(by cases hu),List.Pairwise.nil⟩
theorem pE.snoc{o:Value}{vs:List (Int×Value)}{a:Int}{v:Value}{s:Nat}(h:pE o vs)(ho:∀k,o.ownBlock=some k→k<s)(hs:∀u∈vs,∀k,u.2.ownBlock=some k→k<s)(hv:∀k,v.ownBlock=some k→s≤k):pE o (vs++[(a,v)]):=by
 refine⟨fun u hu k hk e=> ?_,List.pairwise_append.2 ⟨h.2,List.pairwise_singleton _ _,fun u hu x hx k hk e=> ?_⟩⟩
 ·rcases List.mem_append.1 hu with hu|hu
  ·exact h.1 u hu k hk e
  ·rw[List.mem_singleton] at hu
   subst hu
   have:=hv k hk
   have:=ho k e
   omega
 ·rw[List.mem_singleton] at hx
  subst hx
  have:=hs u hu k hk
  have:=hv k e
  omega
theorem aY.inner{e:TypeId}{w:World}{base:Nat}{v:Value}{vs:List (Int×Value)}{xs:List (St ByteArray)}(h:aY e w base v vs xs):∀u∈vs,∀k,u.2.ownBlock=some k→base≤k∧k<w.heap.size:=by
 intro u hu k hk
 obtain⟨i,hi⟩:=List.mem_iff_getElem?.1 hu
 have hil:i<xs.length:=by rw[←h.sees.len];exact(List.getElem?_eq_some_iff.1 hi).1
 obtain⟨v2,h1,h2,_⟩:=h.sees.at_ i xs[i] (List.getElem?_eq_getElem hil)
 rw[hi] at h1
 cases h1
 exact h2.lt hk
def FZ(T:aL)(w:World)(e:Ending)(w' :World):Prop:=∃o p vs,e= .returned (.agg #[.int .i64 T.things,.int .i64 T.now.known,o,p])∧aK w' w.heap.size o T.now.op∧aY 30 w' w.heap.size p vs T.past∧pE o vs∧Below w.heap.size w w'
def CK(w:World)(t q:Int)(A:Option Addr)(n c:Nat)(B:Option Addr)(m d:Nat)(xs:List ByteArray)(s3:Value)(wx:World):Prop:=
 ∃(g:Nat) (A1:Option Addr) (c1:Nat),s3= .pointer (some ⟨g,0,none⟩)∧w.heap.size≤g∧g≠w.heap.size∧g≠w.heap.size+1∧Hid (aD wx w.heap.size 79 [.int .i64 q,.slice A n c,.int .i64 t,.slice B m d])∧Hid (aD wx (w.heap.size+1) 33 [.int .i64 0,.int .i64 0,.slice none 0 0,.slice none 0 0])∧
  Hid (aD wx g 33 [.int .i64 t,.int .i64 q,.slice A1 n c1,.slice none 0 0])∧Hid (aK wx w.heap.size (.slice A1 n c1) xs)∧Hid (Below w.heap.size w wx)
theorem vB{w w1 w2:World}{t q:Int}{av bv:Value}{g:Nat}{A1 Apq A2:Option Addr}{n1 c1 np cp c2 h5:Nat}{xs:List ByteArray}{ys:List (St ByteArray)}{x:St ByteArray}{vs:List (Int×Value)}{v2:Value}{e0 e1:Value}
  (hX:aD w1 w.heap.size 79 [.int .i64 q,av,.int .i64 t,bv]) (hZ:aD w1 (w.heap.size+1) 33 [.int .i64 0,.int .i64 0,.slice none 0 0,.slice none 0 0]) (hU:aD w1 g 33 [.int .i64 t,.int .i64 q,.slice A1 n1 c1,.slice Apq np cp])
  (hO:aK w1 w.heap.size (.slice A1 n1 c1) xs) (hP:aY 30 w1 w.heap.size (.slice Apq np cp) vs ys) (hB:Below w.heap.size w w1) (hgw:w.heap.size≤g) (hg0:g≠w.heap.size) (hg1:g≠w.heap.size+1)
  (hE:aD w1 h5 30 [e0,e1]) (hh5:g≠h5) (h5o:∀k,(Value.slice Apq np cp).ownBlock=some k→k≠h5)
  (hx2:aY 30 w2 w.heap.size v2 (vs++[(x.known,.slice A2 x.op.length c2)]) (ys++[x])) (hg2:(w1.alloc (.cells #[.int .i64 x.known,.slice A2 x.op.length c2] 30)).grownBy w2 (Value.slice Apq np cp).ownBlock):
  ∃A3 n3 c3,v2= .slice A3 n3 c3∧(w2.cell? ⟨h5,0,none⟩=some e0∧w2.cell? ⟨h5,1,none⟩=some e1)∧w2.cell? ⟨g,3,none⟩=some (.slice Apq np cp)∧w2.frozen? ⟨g,3,none⟩=false∧
   ((w2.setCell ⟨g,3,none⟩ (.slice A3 n3 c3)).cell? ⟨h5,0,none⟩=some e0∧(w2.setCell ⟨g,3,none⟩ (.slice A3 n3 c3)).cell? ⟨h5,1,none⟩=some e1)∧
   (aD (w2.setCell ⟨g,3,none⟩ (.slice A3 n3 c3)) w.heap.size 79 [.int .i64 q,av,.int .i64 t,bv]∧aD (w2.setCell ⟨g,3,none⟩ (.slice A3 n3 c3)) (w.heap.size+1) 33 [.int .i64 0,.int .i64 0,.slice none 0 0,.slice none 0 0]∧aD (w2.setCell ⟨g,3,none⟩ (.slice A3 n3 c3)) g 33 [.int .i64 t,.int .i64 q,.slice A1 n1 c1,.slice A3 n3 c3]∧
    aK (w2.setCell ⟨g,3,none⟩ (.slice A3 n3 c3)) w.heap.size (.slice A1 n1 c1) xs∧aY 30 (w2.setCell ⟨g,3,none⟩ (.slice A3 n3 c3)) w.heap.size (.slice A3 n3 c3) (vs++[(x.known,.slice A2 x.op.length c2)]) (ys++[x])∧Below w.heap.size w (w2.setCell ⟨g,3,none⟩ (.slice A3 n3 c3))):=by
 obtain⟨A3,c3,rfl,_,_,_,_⟩:=hx2.form
 have hsz1:w.heap.size≤w1.heap.size:=hB.size
 have HX2:=(hX.alloc (.cells #[.int .i64 x.known,.slice A2 x.op.length c2] 30)).grownO hg2 (fun k e=>iP hX hP.row (by decide) k e)
 have HZ2:=(hZ.alloc (.cells #[.int .i64 x.known,.slice A2 x.op.length c2] 30)).grownO hg2 (fun k e=>iP hZ hP.row (by decide) k e)
 have HU2:=(hU.alloc (.cells #[.int .i64 x.known,.slice A2 x.op.length c2] 30)).grownO hg2 (fun k e=>iP hU hP.row (by decide) k e)
 have HE2:=(hE.alloc (.cells #[.int .i64 x.known,.slice A2 x.op.length c2] 30)).grownO hg2 h5o
 have HOO2:=(hO.below ((Below.refl _ _).alloc (Nat.le_refl _) (.cells #[.int .i64 x.known,.slice A2 x.op.length c2] 30))).kept hg2 (eC hO hP.row (by decide))
 have HB2:=(hB.alloc hsz1 (.cells #[.int .i64 x.known,.slice A2 x.op.length c2] 30)).grown hg2 (by rw[World.size_alloc];omega) (fun kk he=>(hP.lt he).1)
 have HE3:=HE2.other (a:=g) (i:=3) hh5 (.slice A3 (ys++[x]).length c3)
 refine⟨A3,_,c3,rfl,⟨HE2.cell rfl,HE2.cell rfl⟩,HU2.cell rfl,HU2.frozen 3,⟨HE3.cell rfl,HE3.cell rfl⟩,HX2.other hg0 _,HZ2.other hg1 _,HU2.set 3 _,HOO2.setBox HU2 (by decide),hx2.setBox HU2 (by decide) (by decide),HB2.setCell (p:=⟨g,3,none⟩) hgw _⟩
theorem SF(T:aL)(A B:Option Addr)(n c m d:Nat)(w:World)(hT:bN w T A n c B m d)(hs:cD T):
  Calls Tryz.prog 52 #[.agg #[.int .i64 T.now.known,.slice A n c,.int .i64 T.things,.slice B m d]] w (FZ T w):=by
 have HT:=zH hT
 have HS:=zH hs
 obtain rfl:=hT.pn
 obtain rfl:=hT.hn
 have hml:T.past.length≤1048576:=hs.past
 have hnl:T.now.op.length≤1048576:=hs.op
 obtain⟨t,HTT⟩:∃t,Hid (T.things=t):=⟨_,rfl⟩
 obtain⟨q,HQQ⟩:∃q,Hid (T.now.known=q):=⟨_,rfl⟩
 obtain⟨HX0,HZ0,HB0⟩:=AY w 79 33 [.int .i64 q,.slice A T.now.op.length c,.int .i64 t,.slice B T.past.length d] [.int .i64 0,.int .i64 0,.slice none 0 0,.slice none 0 0]
 unfold FZ
 rw[HTT.out,HQQ.out]
 clear hT hs
 go_enter Tryz.func52,Tryz.ntmps52
 go_upto_region 1 with fail
 obtain⟨W0,hW0⟩:∃W,(w.alloc (.cells #[.int .i64 q,.slice A T.now.op.length c,.int .i64 t,.slice B T.past.length d] 79)).alloc (.cells #[.int .i64 0,.int .i64 0,.slice none 0 0,.slice none 0 0] 33)=W:=⟨_,rfl⟩
 have hW0' :(w.alloc (.cells [Value.int .i64 q,.slice A T.now.op.length c,.int .i64 t,.slice B T.past.length d].toArray 79)).alloc (.cells [Value.int .i64 0,.int .i64 0,.slice none 0 0,.slice none 0 0].toArray 33)=W0:=hW0
 rw[hW0'] at HX0 HZ0 HB0
 rw[hW0]
 clear hW0 hW0'
 have hc0:=HX0.out.cell (i:=0) (v:= .int .i64 q) rfl
 have hc1:=HX0.out.cell (i:=1) (v:= .slice A T.now.op.length c) rfl
 have hc2:=HX0.out.cell (i:=2) (v:= .int .i64 t) rfl
 have hsz0:w.heap.size≤W0.heap.size:=HB0.out.size
 have hx0lt:=HX0.out.lt
 have hz0lt:=HZ0.out.lt
 have HCP:Hid (∀W:World,Below w.heap.size w W→Calls Tryz.prog 91 #[.agg #[.int .i64 q,.slice A T.now.op.length c]] W fun e w' =>∃v,e= .returned (.agg #[.int .i64 q,v])∧aK w' W.heap.size v T.now.op∧Below W.heap.size W w'):=fun W h=>BU q A _ c _ W rfl HT.out.hc hnl (HT.out.hA.below h)
 go_cut [3] from 6 to 11 (fun s3 wx=>CK w t q A T.now.op.length c B T.past.length d T.now.op s3 wx)
 case first=>
  go_region_held3 (fun w' =>w'.cell? ⟨w.heap.size,0,none⟩=some (.int .i64 q)∧w'.cell? ⟨w.heap.size,1,none⟩=some (.slice A T.now.op.length c)∧w'.cell? ⟨w.heap.size,2,none⟩=some (.int .i64 t))
   (first|exact HK2.out|exact HK1.out|exact⟨hc0,hc1,hc2⟩|go_keep)
   (first
    |(go_at_call 91;refine(HCP.out W0.drew (aE HB0.out 1)).mono ?_;rintro e w1 ⟨v,rfl,ho,hb⟩;obtain⟨A1,c1,rfl,_⟩:=ho.form;have hx1:=(HX0.out.drew).below hb;have hz1:=(HZ0.out.drew).below hb;have hb1:=aA (aE HB0.out 1) hb;have hx2:=hx1.alloc (.cells #[.int .i64 t,.int .i64 q,.slice A1 T.now.op.length c1,.slice none 0 0] 33);have HK1:=zH (And.intro (hx1.cell (i:=0) (v:= .int .i64 q) rfl) (And.intro (hx1.cell (i:=1) (v:= .slice A T.now.op.length c) rfl) (hx1.cell (i:=2) (v:= .int .i64 t) rfl)));have HK2:=zH (And.intro (hx2.cell (i:=0) (v:= .int .i64 q) rfl) (And.intro (hx2.cell (i:=1) (v:= .slice A T.now.op.length c) rfl) (hx2.cell (i:=2) (v:= .int .i64 t) rfl)));have HFIN:Hid (CK w t q A T.now.op.length c B T.past.length d T.now.op (.pointer (some ⟨w1.heap.size,0,none⟩)) (w1.alloc (.cells #[.int .i64 t,.int .i64 q,.slice A1 T.now.op.length c1,.slice none 0 0] 33))):=⟨w1.heap.size,A1,c1,rfl,hb1.size,(by have:=hz1.lt;omega),(by have:=hz1.lt;omega),hx2,hz1.alloc _,aD.new w1 33 [.int .i64 t,.int .i64 q,.slice A1 T.now.op.length c1,.slice none 0 0],(ho.base hsz0).below ((Below.refl _ _).alloc (Nat.le_refl _) _),hb1.alloc hb1.size _⟩;clear ho hb hx1 hz1 hb1 hx2)
    |(go_at_call 91;refine(HCP.out (W0.drew.alloc (.cells #[.int .i64 0,.int .i64 0,.slice none 0 0,.slice none 0 0] 33)) ((aE HB0.out 1).alloc hsz0 _)).mono ?_;rintro e w1 ⟨v,rfl,ho,hb⟩;obtain⟨A1,c1,rfl,_⟩:=ho.form;have hx1:=((HX0.out.drew).alloc (.cells #[.int .i64 0,.int .i64 0,.slice none 0 0,.slice none 0 0] 33)).below hb;have hz1:=((HZ0.out.drew).alloc (.cells #[.int .i64 0,.int .i64 0,.slice none 0 0,.slice none 0 0] 33)).below hb;have hb1:=aA ((aE HB0.out 1).alloc hsz0 (.cells #[.int .i64 0,.int .i64 0,.slice none 0 0,.slice none 0 0] 33)) hb;have ho2:aD w1 W0.heap.size 33 [.int .i64 0,.int .i64 0,.slice none 0 0,.slice none 0 0]:=(aD.new W0.drew 33 [.int .i64 0,.int .i64 0,.slice none 0 0,.slice none 0 0]).below hb;have hbase:w.heap.size≤(W0.drew.alloc (.cells #[.int .i64 0,.int .i64 0,.slice none 0 0,.slice none 0 0] 33)).heap.size:=(by rw[World.size_alloc];exact Nat.le_succ_of_le hsz0);obtain⟨⟨ha0,ha1,ha2,ha3,ha4,ha5,ha6,ha7⟩,⟨hb2,hb3⟩,⟨hb4,hb5⟩,⟨hb6,hb7⟩,HOUT⟩:=ho2.store4 (.int .i64 t) (.int .i64 q) (.slice A1 T.now.op.length c1) (.slice none 0 0);have hx2:=hx1.other4 (g:=W0.heap.size) (by omega) (.int .i64 t) (.int .i64 q) (.slice A1 T.now.op.length c1) (.slice none 0 0);have HK1:=zH (And.intro (hx1.cell (i:=0) (v:= .int .i64 q) rfl) (And.intro (hx1.cell (i:=1) (v:= .slice A T.now.op.length c) rfl) (hx1.cell (i:=2) (v:= .int .i64 t) rfl)));have HK2:=zH (And.intro (hx2.cell (i:=0) (v:= .int .i64 q) rfl) (And.intro (hx2.cell (i:=1) (v:= .slice A T.now.op.length c) rfl) (hx2.cell (i:=2) (v:= .int .i64 t) rfl)));have HFIN:Hid (CK w t q A T.now.op.length c B T.past.length d T.now.op (.pointer (some ⟨W0.heap.size,0,none⟩)) ((((w1.setCell ⟨W0.heap.size,0,none⟩ (.int .i64 t)).setCell ⟨W0.heap.size,1,none⟩ (.int .i64 q)).setCell ⟨W0.heap.size,2,none⟩ (.slice A1 T.now.op.length c1)).setCell ⟨W0.heap.size,3,none⟩ (.slice none 0 0))):=⟨W0.heap.size,A1,c1,rfl,hsz0,(by omega),(by omega),hx2,hz1.other4 (by omega) _ _ _ _,HOUT,(ho.base hbase).setBox4 ho2 (by decide) _ _ _ _,bG hb1 hsz0 _ _ _ _⟩;clear ho hb hx1 hz1 hb1 hx2 ho2 hbase))
  all_goals
   go_wp2_with fail
   go_meet
   exact HFIN.out
 case rest=>
  obtain⟨g,A1,c1,rfl,hgw,hg0,hg1,HX,HZ,HU,HO,HB⟩:=hcut
  clear HX0 HZ0 HB0 hc0 hc1 hc2 hsz0 hx0lt hz0lt HCP
  have hp3:=HX.out.cell (i:=3) (v:= .slice B T.past.length d) rfl
  go_wp2_with fail
  go_loopw [15] (fun i wr=>∃(j:Nat) (p:Value) (vs:List (Int×Value)),j≤T.past.length∧i= .int .i64 j∧Hid (aD wr w.heap.size 79 [.int .i64 q,.slice A T.now.op.length c,.int .i64 t,.slice B T.past.length d])∧Hid (aD wr (w.heap.size+1) 33 [.int .i64 0,.int .i64 0,.slice none 0 0,.slice none 0 0])∧
   Hid (aD wr g 33 [.int .i64 t,.int .i64 q,.slice A1 T.now.op.length c1,p])∧Hid (aK wr w.heap.size (.slice A1 T.now.op.length c1) T.now.op)∧Hid (aY 30 wr w.heap.size p vs (T.past.take j))∧Hid (pE (.slice A1 T.now.op.length c1) vs)∧Hid (Below w.heap.size w wr)) (fun i _=>T.past.length-(Go.RowKit.intOf i).toNat)
  case atStart=>exact⟨0,_,[],Nat.zero_le _,rfl,HX,HZ,HU,HO,aY.nil _ _ _,pE.nil _,HB⟩
  case round=>
   obtain⟨j,p,vs,hj,rfl,HX,HZ,HU,HO,HP,HAX,HB⟩:=hrel
   by_cases hlt:j<T.past.length
   ·obtain⟨b,off,Ai,ci,x,rfl,he0,he1,hle,hmi,hx,hAi,hbl⟩:=(HT.out.hB.below HB.out).elem hlt
    obtain⟨hxl,hxs⟩:=HS.out.ops x (List.mem_of_getElem? hx.out)
    obtain⟨Apq,cp,hpe,_,_,_,_⟩:=HP.out.form
    obtain⟨np,hnp⟩:∃np,(T.past.take j).length=np:=⟨_,rfl⟩
    rw[hnp] at hpe
    subst hpe
    have HNL:Hid ((T.past.take j).length≤1048576):=by unfold Hid;rw[List.length_take];omega
    have HTK:Hid (T.past.take (j+1)=T.past.take j++[x]):=by
     unfold Hid
     rw[List.take_succ_eq_append_getElem (by omega),(List.getElem?_eq_some_iff.1 hx.out).2]
    have hszr:w.heap.size≤wr.heap.size:=HB.out.size
    have hglt:g<wr.heap.size:=HU.out.lt
    have HE5:Hid (aD (wr.alloc (.cells #[.int .i64 x.known,.slice Ai x.op.length ci] 30)) wr.heap.size 30 [.int .i64 x.known,.slice Ai x.op.length ci]):=aD.new wr 30 [.int .i64 x.known,.slice Ai x.op.length ci]
    have hbel:Below wr.heap.size wr (wr.alloc (.cells #[.int .i64 x.known,.slice Ai x.op.length ci] 30)):=(Below.refl _ _).alloc (Nat.le_refl _) _
    have HX5:=zH (HX.out.below hbel)
    have HZ5:=zH (HZ.out.below hbel)
    have HU5:=zH (HU.out.below hbel)
    have HO5:=zH (HO.out.below hbel)
    have HP5:=zH (HP.out.below hbel)
    have HB5:=zH (aA HB.out hbel)
    have HA5:=zH (hAi.out.below hbel)
    have HLO:Hid ((∀k,(Value.slice A1 T.now.op.length c1).ownBlock=some k→k<wr.heap.size)∧(∀u∈vs,∀k,u.2.ownBlock=some k→k<wr.heap.size)∧(∀k,(Value.slice Apq np cp).ownBlock=some k→k<wr.heap.size)):=⟨fun k hk=>(HO.out.lt hk).2,fun u hu k hk=>(HP.out.inner u hu k hk).2,fun k hk=>(HP.out.lt hk).2⟩
    go_upto_region 5 with fail
    obtain⟨h5,hh5⟩:∃h5,wr.heap.size=h5:=⟨_,rfl⟩
    obtain⟨W5,hW5⟩:∃W,wr.alloc (.cells #[.int .i64 x.known,.slice Ai x.op.length ci] 30)=W:=⟨_,rfl⟩
    rw[hW5] at HE5 HX5 HZ5 HU5 HO5 HP5 HB5 HA5⊢
    rw[hh5] at HE5 HLO hglt hszr
    try rw[hh5]
    clear hW5 hh5 hbel HX HZ HU HO HP HB he0 he1 hAi hnp
    have hu3:=HU5.out.cell (i:=3) (v:= .slice Apq np cp) rfl
    have hu3d:W5.drew.cell? ⟨g,3,none⟩=some (.slice Apq np cp):=hu3
    have hE0:=HE5.out.cell (i:=0) (v:= .int .i64 x.known) rfl
    have hE1:=HE5.out.cell (i:=1) (v:= .slice Ai x.op.length ci) rfl
    have hs5:w.heap.size≤W5.heap.size:=HB5.out.size
    have h5lt:h5<W5.heap.size:=HE5.out.lt
    refine wp_region_held_drew (S:=(fun w' =>w'.cell? ⟨h5,0,none⟩=some (.int .i64 x.known)∧w'.cell? ⟨h5,1,none⟩=some (.slice Ai x.op.length ci))) (by kernel_rfl) ?_ (fun hHeld=> ?_)
    ·exact⟨hE0,hE1⟩
    refine zT 0 (h:=?_)
    try simp only[Act.put,List.setIfInBounds_toArray]
    refine zT 2 (h:=?_)
    try simp only[Act.put]
    refine wpAnyH_ready (rs:=[1,3]) (by kernel_rfl) (by simp) ?_
    refine AllReadyH.cons rfl (fun K hK=> ?_) ?_
    ·go_simp
     refine hK.out _ _ ?_ (fun hHeld=> ?_)
     ·(first|exact HK3.out|exact HK2.out|exact HK1.out|exact⟨hE0,hE1⟩|go_keep)
     clear hK K
     try simp only[Act.put,zS]
     refine wpAnyH_ready (rs:=[3]) (by kernel_rfl) (by simp) ?_
     refine AllReadyH.cons rfl (fun K hK=> ?_) ?_
     ·(go_simp;go_at_call 91;refine(BU x.known Ai _ ci x.op W5.drew rfl hle hxl HA5.out).mono ?_;rintro e w1 ⟨v,rfl,ho,hb⟩;obtain⟨A2,c2,rfl,_⟩:=ho.form;have HNEW:Hid (∀k,(Value.slice A2 x.op.length c2).ownBlock=some k→h5≤k):=(fun k hk=>by have:=(ho.lt hk).1;have:W5.drew.heap.size=W5.heap.size:=rfl;omega);have HX1:=zH ((HX5.out.drew).below hb);have HZ1:=zH ((HZ5.out.drew).below hb);have HU1:=zH ((HU5.out.drew).below hb);have HE1:=zH ((HE5.out.drew).below hb);have HOO1:=zH ((HO5.out.drewN 1).below hb);have HP1:=zH ((HP5.out.drewN 1).below hb);have HB1:=zH (aA (aE HB5.out 1) hb);have hu1:=HU1.out.cell (i:=3) (v:= .slice Apq np cp) rfl;have hu1L:(w1.alloc (.cells #[.int .i64 x.known,.slice A2 x.op.length c2] 30)).cell? ⟨g,3,none⟩=some (.slice Apq np cp):=(HU1.out.alloc _).cell rfl;have HK1:=zH (And.intro (HE1.out.cell (i:=0) (v:= .int .i64 x.known) rfl) (HE1.out.cell (i:=1) (v:= .slice Ai x.op.length ci) rfl));have HO1:=zH (ho.base hs5);have hsz1:w.heap.size≤w1.heap.size:=HB1.out.size;clear ho hb;(try go_simp))
      refine hK.out _ _ ?_ (fun hHeld=> ?_)
      ·(first|exact HK3.out|exact HK2.out|exact HK1.out|exact⟨hE0,hE1⟩|go_keep)
      clear hK K
      try simp only[Act.put,zS]
      refine wpAnyH_ready (rs:=[4]) (by kernel_rfl) (by simp) ?_
      refine AllReadyH.cons rfl (fun K hK=> ?_) ?_
      ·go_simp
       refine hK.out _ _ ?_ (fun hHeld=> ?_)
       ·(first|exact HK3.out|exact HK2.out|exact HK1.out|exact⟨hE0,hE1⟩|go_keep)
       clear hK K
       try simp only[Act.put,zS]
       refine wpAnyH_ready (rs:=[5]) (by kernel_rfl) (by simp) ?_
       refine AllReadyH.cons rfl (fun K hK=> ?_) ?_
       ·refine mP rfl _ _ rfl w.heap.size (.slice Apq np cp) (.slice A2 x.op.length c2) vs (T.past.take j) x rfl HP1.out HO1.out rfl HNL.out hsz1 (eC HO1.out HP1.out.row (by decide)) ?_;intro v2 w2 hx2 hg2;obtain⟨A3,n3,c3,rfl,hk2,hu2,hf2,hk3,hfin⟩:=vB HX1.out HZ1.out HU1.out HOO1.out HP1.out HB1.out hgw hg0 hg1 HE1.out (by omega) (fun k hk=>by have:=HLO.out.2.2 k hk;omega) hx2 hg2;have HK2:=zH hk2;have HK3:=zH hk3;have HFIN:=zH hfin;have HAF:Hid (pE (.slice A1 T.now.op.length c1) (vs++[(x.known,.slice A2 x.op.length c2)])):=HAX.out.snoc (s:=h5) HLO.out.1 HLO.out.2.1 HNEW.out;clear hx2 hg2 hk2 hk3 hfin
        refine hK.out _ _ ?_ (fun hHeld=> ?_)
        ·(first|exact HK3.out|exact HK2.out|exact HK1.out|exact⟨hE0,hE1⟩|go_keep)
        clear hK K
        try simp only[Act.put,List.setIfInBounds_toArray]
        refine zT 6 (h:=?_)
        try simp only[Act.put]
        refine wpAnyH_ready (rs:=[7]) (by kernel_rfl) (by simp) ?_
        refine AllReadyH.cons rfl (fun K hK=> ?_) ?_
        ·go_simp
         refine hK.out _ _ ?_ (fun hHeld=> ?_)
         ·(first|exact HK3.out|exact HK2.out|exact HK1.out|exact⟨hE0,hE1⟩|go_keep)
         clear hK K
         try simp only[Act.put]
         refine wpAnyH_done (by kernel_rfl) ?_ _
         go_wp2_with fail
         obtain⟨h1,h2,h3,h4,h5',h6⟩:=HFIN.out
         rw[←HTK.out] at h5'
         go_roundw
         case rel=>exact⟨j+1,_,_,by omega,by go_num,h1,h2,h3,h4,h5',HAF,h6⟩
         case measure=>simp[Go.RowKit.intOf];omega
        exact AllReadyH.nil
       exact AllReadyH.nil
      exact AllReadyH.nil
     exact AllReadyH.nil
    refine AllReadyH.cons rfl (fun K hK=> ?_) ?_
    ·(go_simp;go_at_call 91;refine(BU x.known Ai _ ci x.op W5.drew rfl hle hxl HA5.out).mono ?_;rintro e w1 ⟨v,rfl,ho,hb⟩;obtain⟨A2,c2,rfl,_⟩:=ho.form;have HNEW:Hid (∀k,(Value.slice A2 x.op.length c2).ownBlock=some k→h5≤k):=(fun k hk=>by have:=(ho.lt hk).1;have:W5.drew.heap.size=W5.heap.size:=rfl;omega);have HX1:=zH ((HX5.out.drew).below hb);have HZ1:=zH ((HZ5.out.drew).below hb);have HU1:=zH ((HU5.out.drew).below hb);have HE1:=zH ((HE5.out.drew).below hb);have HOO1:=zH ((HO5.out.drewN 1).below hb);have HP1:=zH ((HP5.out.drewN 1).below hb);have HB1:=zH (aA (aE HB5.out 1) hb);have hu1:=HU1.out.cell (i:=3) (v:= .slice Apq np cp) rfl;have hu1L:(w1.alloc (.cells #[.int .i64 x.known,.slice A2 x.op.length c2] 30)).cell? ⟨g,3,none⟩=some (.slice Apq np cp):=(HU1.out.alloc _).cell rfl;have HK1:=zH (And.intro (HE1.out.cell (i:=0) (v:= .int .i64 x.known) rfl) (HE1.out.cell (i:=1) (v:= .slice Ai x.op.length ci) rfl));have HO1:=zH (ho.base hs5);have hsz1:w.heap.size≤w1.heap.size:=HB1.out.size;clear ho hb;(try go_simp))
     refine hK.out _ _ ?_ (fun hHeld=> ?_)
     ·(first|exact HK3.out|exact HK2.out|exact HK1.out|exact⟨hE0,hE1⟩|go_keep)
     clear hK K
     try simp only[Act.put,zS]
     refine wpAnyH_ready (rs:=[1,4]) (by kernel_rfl) (by simp) ?_
     refine AllReadyH.cons rfl (fun K hK=> ?_) ?_
     ·go_simp
      refine hK.out _ _ ?_ (fun hHeld=> ?_)
      ·(first|exact HK3.out|exact HK2.out|exact HK1.out|exact⟨hE0,hE1⟩|go_keep)
      clear hK K
      try simp only[Act.put,zS]
      refine wpAnyH_ready (rs:=[4]) (by kernel_rfl) (by simp) ?_
      refine AllReadyH.cons rfl (fun K hK=> ?_) ?_
      ·go_simp
       refine hK.out _ _ ?_ (fun hHeld=> ?_)
       ·(first|exact HK3.out|exact HK2.out|exact HK1.out|exact⟨hE0,hE1⟩|go_keep)
       clear hK K
       try simp only[Act.put,zS]
       refine wpAnyH_ready (rs:=[5]) (by kernel_rfl) (by simp) ?_
       refine AllReadyH.cons rfl (fun K hK=> ?_) ?_
       ·refine mP rfl _ _ rfl w.heap.size (.slice Apq np cp) (.slice A2 x.op.length c2) vs (T.past.take j) x rfl HP1.out HO1.out rfl HNL.out hsz1 (eC HO1.out HP1.out.row (by decide)) ?_;intro v2 w2 hx2 hg2;obtain⟨A3,n3,c3,rfl,hk2,hu2,hf2,hk3,hfin⟩:=vB HX1.out HZ1.out HU1.out HOO1.out HP1.out HB1.out hgw hg0 hg1 HE1.out (by omega) (fun k hk=>by have:=HLO.out.2.2 k hk;omega) hx2 hg2;have HK2:=zH hk2;have HK3:=zH hk3;have HFIN:=zH hfin;have HAF:Hid (pE (.slice A1 T.now.op.length c1) (vs++[(x.known,.slice A2 x.op.length c2)])):=HAX.out.snoc (s:=h5) HLO.out.1 HLO.out.2.1 HNEW.out;clear hx2 hg2 hk2 hk3 hfin
        refine hK.out _ _ ?_ (fun hHeld=> ?_)
        ·(first|exact HK3.out|exact HK2.out|exact HK1.out|exact⟨hE0,hE1⟩|go_keep)
        clear hK K
        try simp only[Act.put,List.setIfInBounds_toArray]
        refine zT 6 (h:=?_)
        try simp only[Act.put]
        refine wpAnyH_ready (rs:=[7]) (by kernel_rfl) (by simp) ?_
        refine AllReadyH.cons rfl (fun K hK=> ?_) ?_
        ·go_simp
         refine hK.out _ _ ?_ (fun hHeld=> ?_)
         ·(first|exact HK3.out|exact HK2.out|exact HK1.out|exact⟨hE0,hE1⟩|go_keep)
         clear hK K
         try simp only[Act.put]
         refine wpAnyH_done (by kernel_rfl) ?_ _
         go_wp2_with fail
         obtain⟨h1,h2,h3,h4,h5',h6⟩:=HFIN.out
         rw[←HTK.out] at h5'
         go_roundw
         case rel=>exact⟨j+1,_,_,by omega,by go_num,h1,h2,h3,h4,h5',HAF,h6⟩
         case measure=>simp[Go.RowKit.intOf];omega
        exact AllReadyH.nil
       exact AllReadyH.nil
      exact AllReadyH.nil
     refine AllReadyH.cons rfl (fun K hK=> ?_) ?_
     ·go_simp
      refine hK.out _ _ ?_ (fun hHeld=> ?_)
      ·(first|exact HK3.out|exact HK2.out|exact HK1.out|exact⟨hE0,hE1⟩|go_keep)
      clear hK K
      try simp only[Act.put,zS]
      refine wpAnyH_ready (rs:=[1]) (by kernel_rfl) (by simp) ?_
      refine AllReadyH.cons rfl (fun K hK=> ?_) ?_
      ·go_simp
       refine hK.out _ _ ?_ (fun hHeld=> ?_)
       ·(first|exact HK3.out|exact HK2.out|exact HK1.out|exact⟨hE0,hE1⟩|go_keep)
       clear hK K
       try simp only[Act.put,zS]
       refine wpAnyH_ready (rs:=[5]) (by kernel_rfl) (by simp) ?_
       refine AllReadyH.cons rfl (fun K hK=> ?_) ?_
       ·refine mP rfl _ _ rfl w.heap.size (.slice Apq np cp) (.slice A2 x.op.length c2) vs (T.past.take j) x rfl HP1.out HO1.out rfl HNL.out hsz1 (eC HO1.out HP1.out.row (by decide)) ?_;intro v2 w2 hx2 hg2;obtain⟨A3,n3,c3,rfl,hk2,hu2,hf2,hk3,hfin⟩:=vB HX1.out HZ1.out HU1.out HOO1.out HP1.out HB1.out hgw hg0 hg1 HE1.out (by omega) (fun k hk=>by have:=HLO.out.2.2 k hk;omega) hx2 hg2;have HK2:=zH hk2;have HK3:=zH hk3;have HFIN:=zH hfin;have HAF:Hid (pE (.slice A1 T.now.op.length c1) (vs++[(x.known,.slice A2 x.op.length c2)])):=HAX.out.snoc (s:=h5) HLO.out.1 HLO.out.2.1 HNEW.out;clear hx2 hg2 hk2 hk3 hfin
        refine hK.out _ _ ?_ (fun hHeld=> ?_)
        ·(first|exact HK3.out|exact HK2.out|exact HK1.out|exact⟨hE0,hE1⟩|go_keep)
        clear hK K
        try simp only[Act.put,List.setIfInBounds_toArray]
        refine zT 6 (h:=?_)
        try simp only[Act.put]
        refine wpAnyH_ready (rs:=[7]) (by kernel_rfl) (by simp) ?_
        refine AllReadyH.cons rfl (fun K hK=> ?_) ?_
        ·go_simp
         refine hK.out _ _ ?_ (fun hHeld=> ?_)
         ·(first|exact HK3.out|exact HK2.out|exact HK1.out|exact⟨hE0,hE1⟩|go_keep)
         clear hK K
         try simp only[Act.put]
         refine wpAnyH_done (by kernel_rfl) ?_ _
         go_wp2_with fail
         obtain⟨h1,h2,h3,h4,h5',h6⟩:=HFIN.out
         rw[←HTK.out] at h5'
         go_roundw
         case rel=>exact⟨j+1,_,_,by omega,by go_num,h1,h2,h3,h4,h5',HAF,h6⟩
         case measure=>simp[Go.RowKit.intOf];omega
        exact AllReadyH.nil
       exact AllReadyH.nil
      exact AllReadyH.nil
     exact AllReadyH.nil
    exact AllReadyH.nil
   ·obtain rfl:j=T.past.length:=by omega
    rw[List.take_length] at HP
    obtain⟨Apq,cp,hpe,_,_,_,_⟩:=HP.out.form
    subst hpe
    have hu0:=HU.out.cell (i:=0) (v:= .int .i64 t) rfl
    have hu1:=HU.out.cell (i:=1) (v:= .int .i64 q) rfl
    have hu2:=HU.out.cell (i:=2) (v:= .slice A1 T.now.op.length c1) rfl
    have hu3:=HU.out.cell (i:=3) (v:= .slice Apq T.past.length cp) rfl
    obtain⟨⟨ha0,ha1,ha2,ha3,ha4,ha5,ha6,ha7⟩,⟨hb2,hb3⟩,⟨hb4,hb5⟩,⟨hb6,hb7⟩,HOUT⟩:=HZ.out.store4 (.int .i64 t) (.int .i64 q) (.slice A1 T.now.op.length c1) (.slice Apq T.past.length cp)
    have HB5:=zH (bG HB.out (show w.heap.size≤w.heap.size+1 by omega) (.int .i64 t) (.int .i64 q) (.slice A1 T.now.op.length c1) (.slice Apq T.past.length cp))
    have HO5:=zH (HO.out.setBox4 HZ.out (by decide) (.int .i64 t) (.int .i64 q) (.slice A1 T.now.op.length c1) (.slice Apq T.past.length cp))
    have HP5:=zH (HP.out.setBox4 HZ.out (by decide) (by decide) (.int .i64 t) (.int .i64 q) (.slice A1 T.now.op.length c1) (.slice Apq T.past.length cp))
    go_wp2_with fail
    refine bodyPost_ret_by (gV (b:=w.heap.size+1) rfl rfl HOUT) rfl ⟨_,_,vs,rfl,HO5.out,HP5.out,HAX.out,HB5.out⟩
end Go.Proofs.YtfhjcacfchkdpaaGreatDoor

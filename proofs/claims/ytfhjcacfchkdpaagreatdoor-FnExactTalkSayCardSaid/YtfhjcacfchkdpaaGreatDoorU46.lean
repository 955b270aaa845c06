/-
  What the proofs of this seat's statements share (TlkX, FrmT, MrkX, MrkY, TdxA).
-/
import Derived.Deep.SlicePairs
import Derived.Deep.Strs
import Derived.Test.YtfhjcacfchkdpaaGreatDoorU39
import Derived.Test.YtfhjcacfchkdpaaGreatDoorU45
set_option maxRecDepth 100000
set_option maxHeartbeats 32000000
namespace Go.Proofs.YtfhjcacfchkdpaaGreatDoor
open Go.RowKit
theorem sI.in_{w:World}{lo:Nat}{T:aL}{o p:Value}{vs:List (Int×Value)}{mid:Nat}(h:sI w lo T o p vs mid):
  ∃A c B d,o= .slice A T.now.op.length c∧p= .slice B T.past.length d∧dL w lo T A T.now.op.length c B T.past.length d:=qO h.1 (h.2.2.1.base h.2.2.2.2.2)
theorem SJ(T:aL)(A B:Option Addr)(n c m d:Nat)(w:World)(hT:bN w T A n c B m d)(hs:cD T):
  Calls Tryz.prog 29 #[.agg #[.int .i64 T.things,.int .i64 T.now.known,.slice A n c,.slice B m d]] w fun e w' =>∃o p vs mid,e= .returned (.agg #[.int .i64 T.things,.int .i64 T.now.known,o,p])∧sI w' w.heap.size T o p vs mid∧Below w.heap.size w w' :=by
 obtain⟨t,ht⟩:∃t,T.things=t:=⟨_,rfl⟩
 obtain⟨k,hk⟩:∃k,T.now.known=k:=⟨_,rfl⟩
 rw[ht,hk]
 obtain⟨W0,hW0⟩:∃W,((w.alloc (.cells #[.int .i64 t,.int .i64 k,.slice A n c,.slice B m d] 57)).alloc (.cells #[.int .i64 0,.int .i64 0,.slice none 0 0,.slice none 0 0] 33)).alloc (.cells #[.int .i64 t,.int .i64 0,.slice none 0 0,.slice none 0 0] 33)=W:=⟨_,rfl⟩
 have HARG:Hid (aD W0 w.heap.size 57 [.int .i64 t,.int .i64 k,.slice A n c,.slice B m d]):=by
  rw[←hW0]
  exact((aD.new w 57 [.int .i64 t,.int .i64 k,.slice A n c,.slice B m d]).alloc _).alloc _
 have HRES:Hid (aD W0 (w.heap.size+1) 33 [.int .i64 0,.int .i64 0,.slice none 0 0,.slice none 0 0]):=by
  have:=aD.new (w.alloc (.cells #[.int .i64 t,.int .i64 k,.slice A n c,.slice B m d] 57)) 33 [.int .i64 0,.int .i64 0,.slice none 0 0,.slice none 0 0]
  rw[World.size_alloc] at this
  rw[←hW0]
  exact this.alloc _
 have HOUT:Hid (aD W0 (w.heap.size+1+1) 33 [.int .i64 t,.int .i64 0,.slice none 0 0,.slice none 0 0]):=by
  have:=aD.new ((w.alloc (.cells #[.int .i64 t,.int .i64 k,.slice A n c,.slice B m d] 57)).alloc (.cells #[.int .i64 0,.int .i64 0,.slice none 0 0,.slice none 0 0] 33)) 33 [.int .i64 t,.int .i64 0,.slice none 0 0,.slice none 0 0]
  rw[World.size_alloc,World.size_alloc] at this
  rw[←hW0]
  exact this
 have hb0:Below w.heap.size w W0:=by
  rw[←hW0]
  exact(((Below.refl _ _).alloc (Nat.le_refl _) _).alloc (by rw[World.size_alloc];omega) _).alloc (by rw[World.size_alloc,World.size_alloc];omega) _
 have HB:=zH hb0
 have hlt0:w.heap.size+1+1<W0.heap.size:=HOUT.out.lt
 have HC:=zH (F4 k A n c T.now.op W0 hT.hn (by rw[hT.hn];exact hs.op) (hT.hA.below hb0))
 have HC2:Hid (∀W:World,Below w.heap.size w W→Calls Tryz.prog 76 #[.slice B m d] W fun e w' =>∃v vs,e= .returned v∧aY 30 w' W.heap.size v vs T.past∧mS w' (W.heap.size+1) vs T.past∧v.ownBlock=some W.heap.size∧Below W.heap.size W w'):=
  fun W h=>MT B m d T.past W hT.pn (by rw[hT.pn];exact hs.past) (hT.hB.below h) fun x hx=>(hs.ops x hx).1
 have hx1:=HARG.out.cell (i:=1) (v:= .int .i64 k) rfl
 have hx2:=HARG.out.cell (i:=2) (v:= .slice A n c) rfl
 clear hT hs hb0 ht hk
 go_enter Tryz.func29,Tryz.ntmps29
 go_wp2_with fail
 clear hW0 hx1 hx2
 refine HC.out.mono ?_
 rintro e w1 ⟨o,rfl,ho,hb⟩
 have HARG1:=zH (HARG.out.below hb)
 have HRES1:=zH (HRES.out.below hb)
 have HOUT1:=zH (HOUT.out.below hb)
 have HO1:=zH ho
 have HB1:=zH (aA HB.out hb)
 have hs01:W0.heap.size≤w1.heap.size:=hb.size
 obtain⟨A1,c1,rfl,_,_,_,_⟩:=ho.form
 clear ho hb HC HRES HOUT HARG HB
 have hc1:=HOUT1.out.cell (i:=1) (v:= .int .i64 0) rfl
 have hf1:=HOUT1.out.frozen 1
 have hc2:=(HOUT1.out.set 1 (.int .i64 k)).cell (i:=2) (v:= .slice none 0 0) rfl
 have hf2:=(HOUT1.out.set 1 (.int .i64 k)).frozen 2
 have HOUT2:=zH ((HOUT1.out.set 1 (.int .i64 k)).set 2 (.slice A1 T.now.op.length c1))
 have HARG2:=zH ((HARG1.out.other (a:=w.heap.size+1+1) (i:=1) (by omega) (.int .i64 k)).other (a:=w.heap.size+1+1) (i:=2) (by omega) (.slice A1 T.now.op.length c1))
 have HRES2:=zH ((HRES1.out.other (a:=w.heap.size+1+1) (i:=1) (by omega) (.int .i64 k)).other (a:=w.heap.size+1+1) (i:=2) (by omega) (.slice A1 T.now.op.length c1))
 have HO2:=zH ((HO1.out.setBox (i:=1) (u:= .int .i64 k) HOUT1.out (by decide)).setBox (i:=2) (u:= .slice A1 T.now.op.length c1) (HOUT1.out.set 1 _) (by decide))
 have HB2:=zH ((HB1.out.setCell (p:=⟨w.heap.size+1+1,1,none⟩) (by show w.heap.size≤w.heap.size+1+1;omega) (.int .i64 k)).setCell (p:=⟨w.heap.size+1+1,2,none⟩) (by show w.heap.size≤w.heap.size+1+1;omega) (.slice A1 T.now.op.length c1))
 have hs12:w1.heap.size≤((w1.setCell ⟨w.heap.size+1+1,1,none⟩ (.int .i64 k)).setCell ⟨w.heap.size+1+1,2,none⟩ (.slice A1 T.now.op.length c1)).heap.size:=by simp[World.setCell]
 have hc3:=HARG2.out.cell (i:=3) (v:= .slice B m d) rfl
 have HC3:=zH (HC2.out _ HB2.out)
 obtain⟨W2,hW2⟩:∃W,((w1.setCell ⟨w.heap.size+1+1,1,none⟩ (.int .i64 k)).setCell ⟨w.heap.size+1+1,2,none⟩ (.slice A1 T.now.op.length c1))=W:=⟨_,rfl⟩
 rw[hW2] at HOUT2 HARG2 HRES2 HO2 HB2 hs12 hc3 HC3
 go_wp2_with fail
 clear hW2 hc1 hf1 hc2 hf2
 refine HC3.out.mono ?_
 rintro e w3 ⟨p,vs,rfl,hp,hsn,hown,hb⟩
 have HOUT3:=zH (HOUT2.out.below hb)
 have HRES3:=zH (HRES2.out.below hb)
 have HO3:=zH (HO2.out.below hb)
 have HB3:=zH (aA HB2.out hb)
 obtain⟨B1,d1,rfl,_,_,_,_⟩:=hp.form
 have HLT:Hid (∀kk,(Value.slice A1 T.now.op.length c1).ownBlock=some kk→kk<W2.heap.size):=fun kk e=>(HO2.out.lt e).2
 have HP3:=zH hp
 have HSN3:=zH hsn
 have HOWN:=zH hown
 clear hp hsn hown hb hc3 HC2 HC3 HARG2 HARG1
 have hd0:=HOUT3.out.cell (i:=3) (v:= .slice none 0 0) rfl
 have hf3:=HOUT3.out.frozen 3
 have HOUT4:=zH (HOUT3.out.set 3 (.slice B1 T.past.length d1))
 have he0:=HOUT4.out.cell (i:=0) (v:= .int .i64 t) rfl
 have he1:=HOUT4.out.cell (i:=1) (v:= .int .i64 k) rfl
 have he2:=HOUT4.out.cell (i:=2) (v:= .slice A1 T.now.op.length c1) rfl
 have he3:=HOUT4.out.cell (i:=3) (v:= .slice B1 T.past.length d1) rfl
 have HRES4:=zH (HRES3.out.other (a:=w.heap.size+1+1) (i:=3) (by omega) (.slice B1 T.past.length d1))
 obtain⟨⟨ha0,ha1,ha2,ha3,ha4,ha5,ha6,ha7⟩,⟨hb2,hb3⟩,⟨hb4,hb5⟩,⟨hb6,hb7⟩,HRES5⟩:=HRES4.out.store4 (.int .i64 t) (.int .i64 k) (.slice A1 T.now.op.length c1) (.slice B1 T.past.length d1)
 have HB5:=zH (bG (HB3.out.setCell (p:=⟨w.heap.size+1+1,3,none⟩) (by show w.heap.size≤w.heap.size+1+1;omega) (.slice B1 T.past.length d1)) (show w.heap.size≤w.heap.size+1 by omega) (.int .i64 t) (.int .i64 k) (.slice A1 T.now.op.length c1) (.slice B1 T.past.length d1))
 have hset:∀(W:World) (g i:Nat) (v:Value),g<w1.heap.size→aX W2.heap.size W (W.setCell ⟨g,i,none⟩ v):=fun W g i v h=>aX.set (by omega)
 have HK:Hid (aX W2.heap.size w3 (((((w3.setCell ⟨w.heap.size+1+1,3,none⟩ (.slice B1 T.past.length d1)).setCell ⟨w.heap.size+1,0,none⟩ (.int .i64 t)).setCell ⟨w.heap.size+1,1,none⟩ (.int .i64 k)).setCell ⟨w.heap.size+1,2,none⟩ (.slice A1 T.now.op.length c1)).setCell ⟨w.heap.size+1,3,none⟩ (.slice B1 T.past.length d1))):=
  ((((hset _ _ _ _ (by omega)).trans (hset _ _ _ _ (by omega)) (Nat.le_refl _)).trans (hset _ _ _ _ (by omega)) (Nat.le_refl _)).trans (hset _ _ _ _ (by omega)) (Nat.le_refl _)).trans (hset _ _ _ _ (by omega)) (Nat.le_refl _)
 have HO5:=zH ((HO3.out.setBox (i:=3) (u:= .slice B1 T.past.length d1) HOUT3.out (by decide)).setBox4 HRES4.out (by decide) (.int .i64 t) (.int .i64 k) (.slice A1 T.now.op.length c1) (.slice B1 T.past.length d1))
 have hmid:w.heap.size≤W2.heap.size:=by omega
 have HFIN:Hid (sI (((((w3.setCell ⟨w.heap.size+1+1,3,none⟩ (.slice B1 T.past.length d1)).setCell ⟨w.heap.size+1,0,none⟩ (.int .i64 t)).setCell ⟨w.heap.size+1,1,none⟩ (.int .i64 k)).setCell ⟨w.heap.size+1,2,none⟩ (.slice A1 T.now.op.length c1)).setCell ⟨w.heap.size+1,3,none⟩ (.slice B1 T.past.length d1)) w.heap.size T (.slice A1 T.now.op.length c1) (.slice B1 T.past.length d1) vs W2.heap.size):=
  ⟨HO5.out.base (by omega),HLT.out,HP3.out.keep HK.out,HSN3.out.keep (HK.out.base (Nat.le_succ _)),HOWN.out,hmid⟩
 clear hset
 go_wp2_with fail
 refine bodyPost_ret_by (gV (b:=w.heap.size+1) rfl rfl HRES5) rfl ⟨_,_,vs,_,rfl,HFIN.out,HB5.out⟩
def OW(T:aL)(w:World)(e:Ending)(w' :World):Prop:=∃A n c B m d vs mid,e= .returned (.agg #[.int .i64 T.things,.int .i64 T.now.known,.slice A n c,.slice B m d])∧dL w' w.heap.size T A n c B m d∧sI w' w.heap.size T (.slice A n c) (.slice B m d) vs mid∧Below w.heap.size w w'
theorem KD{T:aL}{A B:Option Addr}{n c m d:Nat}{w:World}(hT:bN w T A n c B m d)(hs:cD T):
  Calls Tryz.prog 29 #[.agg #[.int .i64 T.things,.int .i64 T.now.known,.slice A n c,.slice B m d]] w (OW T w):=by
 refine(SJ T A B n c m d w hT hs).mono ?_
 rintro e w' ⟨o,p,vs,mid,rfl,ho,hb⟩
 obtain⟨A',c',B',d',rfl,rfl,h⟩:=ho.in_
 exact⟨A',_,c',B',_,d',vs,mid,rfl,h,ho,hb⟩
end Go.Proofs.YtfhjcacfchkdpaaGreatDoor
namespace Go.Proofs.YtfhjcacfchkdpaaGreatDoor
open Go.ChangeShapes Go.WideShapes Go.ChangeAt Go.RowKit Go.Deep
theorem IW:Tryz.prog.cellsOf 57=4:=by kernel_rfl
theorem vF:Tryz.prog.cellsOf 54=2:=by kernel_rfl
theorem D5:Tryz.prog.cellsOf 55=1:=by kernel_rfl
theorem uH:Tryz.prog.cellsOf 3=1:=by kernel_rfl
theorem xZ:Tryz.prog.cellsOf 28=1:=by kernel_rfl
def ZC:Value→Int
 | .int _ n=>n
 |_=>0
section
variable {H:Type} {enc:TypeId×Value→H} {w:World} {base:Nat} {spare:Nat→Bool} {held:Bool}
theorem D4{fuel:Nat}{v:Value}{x:DataW H×List MemPlace}(h:DataW.trod enc Tryz.prog w base spare held fuel 55 [v]=some x):
  ∃(A:Option Addr) (xs:List (St ByteArray)) (c:Nat),v= .slice A xs.length c∧xs.length≤c∧c≤maxLen∧b6 w A xs∧∀x∈xs,∀s∈x.op,s.size≤maxLen:=by
 rcases open_slice_pairs Tryz.underlying55 Tryz.underlying54 vF rfl rfl uH xZ h with⟨hcs,_⟩|⟨a,l,c,m,n,V0,V1,D0,D1,P0,P1,hcs,_,hl,hm,hmm,_,hx⟩
 ·simp only[List.cons.injEq,and_true] at hcs
  subst hcs
  exact⟨none,[],0,rfl,Nat.le_refl _,Nat.zero_le _,b6.nil _ _,fun d h=>by cases h⟩
 ·simp only[List.cons.injEq,and_true] at hcs
  subst hcs
  have hlm:l≤m:=by rw[hmm];split<;>omega
  have each:∀i:Nat,∃x:St ByteArray,i<l→V0 i= .int .i64 x.known∧∃Ai ci,V1 i= .slice Ai x.op.length ci∧x.op.length≤ci∧ci≤maxLen∧a7 w Ai x.op∧∀s∈x.op,s.size≤maxLen:=fun i=>by
   by_cases hi:i<l
   ·obtain⟨_,_,t0,t1⟩:=hx i (by omega)
    obtain⟨k0,e0,_,_⟩:=DataW.trod_int Tryz.underlying3 t0
    obtain⟨Ai,ss,ci,e1,h1,h2,h3,h4⟩:=uV t1
    exact⟨⟨k0,ss⟩,fun _=>⟨by simpa [Value.cells] using e0,Ai,ci,e1,h1,h2,h3,h4⟩⟩
   ·exact⟨⟨0,[]⟩,fun h=>absurd h hi⟩
  obtain⟨f,hf⟩:=Classical.axiomOfChoice each
  refine⟨some a,(List.range l).map f,c,by simp,by simpa using hl,hm,fun hp=> ?_,fun d hd=> ?_⟩
  ·simp only[List.length_map,List.length_range] at hp
   have hsp:a.spot=none:=by
    have:=(hx 0 (by omega)).1
    have:=World.cell?_spot this
    simpa [Addr.add] using this
   obtain⟨b,off,spot⟩:=a
   subst hsp
   refine⟨b,off,rfl,?_,fun i d hd=> ?_⟩
   ·have:=(hx 0 (by omega)).1
    exact World.block_lt_of_cell? w _ this
   ·have hi:i<l:=Classical.byContradiction fun hn=>by
     rw[List.getElem?_eq_none (by simp only[List.length_map,List.length_range];omega)] at hd;cases hd
    rw[List.getElem?_map,List.getElem?_range hi] at hd
    obtain rfl:=Option.some.inj hd
    obtain⟨c0,c1,_,_⟩:=hx i (by omega)
    obtain⟨f0,Ai,ci,f1,h1,h2,h3,_⟩:=hf i hi
    rw[add_plain] at c0 c1
    rw[f0] at c0
    rw[f1] at c1
    exact⟨Ai,ci,c0,by rw[Nat.add_assoc];exact c1,h1,h2,h3⟩
  ·obtain⟨i,hi,rfl⟩:=List.mem_map.1 hd
   rw[List.mem_range] at hi
   obtain⟨_,_,_,_,_,_,_,h⟩:=hf i hi
   exact h
theorem UW{r:Reach}{b0:Nat}{v:Value}{d:DataW H}{ps:List MemPlace}(hval:Value.okWide Tryz.prog w r b0 57 v)(h:DataW.Trod enc Tryz.prog w base spare held 57 v d ps):
  ∃(T:aL) (A:Option Addr) (n c:Nat) (B:Option Addr) (m d:Nat),v= .agg #[.int .i64 T.things,.int .i64 T.now.known,.slice A n c,.slice B m d]∧bN w T A n c B m d∧QC T:=by
 obtain⟨cs,rfl,hs⟩:=okWide_struct Tryz.underlying57 hval
 obtain⟨fuel,hf⟩:=h
 obtain⟨y0,y1,y2,n,_,hl,h0,h1,h2⟩:=trod_struct3 Tryz.underlying57 hf
 rw[IW] at hs
 obtain⟨l⟩:=cs
 match l,hs with
 |[c0,c1,c2,c3],_=>
  simp only[uH,vF,D5] at h0 h1 h2
  obtain⟨k0,e0,_,_⟩:=DataW.trod_int Tryz.underlying3 h0
  obtain⟨z0,z1,n',_,_,g0,g1⟩:=trod_struct2 Tryz.underlying54 h1
  simp only[uH,xZ] at g0 g1
  obtain⟨k1,e1,_,_⟩:=DataW.trod_int Tryz.underlying3 g0
  obtain⟨A,ss,c,e2,s1,s2,s3,s4⟩:=uV (v:=c2) g1
  obtain⟨B,xs,d,e3,t1,t2,t3,t4⟩:=D4 (v:=c3) h2
  simp[Value.cells] at e0 e1
  subst e2 e3
  exact⟨⟨k0,⟨k1,ss⟩,xs⟩,A,_,c,B,_,d,by rw[e0,e1],⟨rfl,s1,s2,s3,rfl,t1,t2,t3⟩,⟨s4,t4⟩⟩
end
end Go.Proofs.YtfhjcacfchkdpaaGreatDoor
namespace Go.Proofs.YtfhjcacfchkdpaaGreatDoor
open Go.RowKit
def f8:List Nat→Nat
 |[]=>0
 |n::ns=>n+1+f8 ns
def j4:Nat→List Nat→List (St ByteArray)
 |_,[]=>[]
 |k,n::ns=>⟨(k:Int),iM (k+1) n⟩::j4 (k+1+n) ns
theorem uA:∀(ns:List Nat) (k:Nat),(j4 k ns).length=ns.length
 |[],_=>rfl
 |n::ns,k=>by rw[j4,List.length_cons,List.length_cons,uA ns]
theorem v8:∀(ns:List Nat) (k i n:Nat),ns[i]? =some n→(j4 k ns)[i]? =some ⟨((k+f8 (ns.take i):Nat):Int),iM (k+f8 (ns.take i)+1) n⟩
 |[],k,i,n,h=>by simp at h
 |m::ns,k,0,n,h=>by
  simp only[List.getElem?_cons_zero,Option.some.injEq] at h
  subst h
  simp[j4,f8]
 |m::ns,k,i+1,n,h=>by
  rw[List.getElem?_cons_succ] at h
  rw[j4,List.getElem?_cons_succ,v8 ns _ i n h,List.take_succ_cons,f8]
  rw[show k+1+m+f8 (ns.take i)=k+(m+1+f8 (ns.take i)) by omega]
theorem u5:∀(ns:List Nat) (i n:Nat),ns[i]? =some n→f8 (ns.take (i+1))=f8 (ns.take i)+1+n
 |[],i,n,h=>by simp at h
 |m::ns,0,n,h=>by
  simp only[List.getElem?_cons_zero,Option.some.injEq] at h
  subst h
  simp[f8];omega
 |m::ns,i+1,n,h=>by
  rw[List.getElem?_cons_succ] at h
  rw[List.take_succ_cons,List.take_succ_cons,f8,f8,u5 ns i n h];omega
theorem JY:∀(ns:List Nat) (b:Nat),(∀n∈ns,n≤b)→f8 ns≤ns.length*(b+1)
 |[],b,_=>Nat.zero_le _
 |n::ns,b,h=>by
  have h1:=JY ns b fun x hx=>h x (List.mem_cons_of_mem _ hx)
  have h2:=h n (by simp)
  rw[f8,List.length_cons,Nat.succ_mul];omega
theorem O5(ns:List Nat)(b i:Nat)(hb:∀n∈ns,n≤b):f8 (ns.take i)≤ns.length*(b+1):=
 Nat.le_trans (JY _ b fun n hn=>hb n (List.mem_of_mem_take hn)) (Nat.mul_le_mul_right _ (by rw[List.length_take];omega))
theorem CW{ns:List Nat}(hl:ns.length≤1048576)(hs:∀n∈ns,n≤1048576)(i:Nat):f8 (ns.take i)≤1099512676352:=by
 have h1:=O5 ns 1048576 i hs
 omega
def dV(xs:List (St ByteArray)):List Nat:=xs.map fun x=>x.op.length
theorem oO(xs:List (St ByteArray)):(dV xs).length=xs.length:=by unfold dV;simp
theorem PS{xs:List (St ByteArray)}{i:Nat}{x:St ByteArray}(h:xs[i]? =some x):(dV xs)[i]? =some x.op.length:=by unfold dV;rw[List.getElem?_map,h];rfl
theorem zI{xs:List (St ByteArray)}{b:Nat}(h:∀x∈xs,x.op.length≤b):∀n∈dV xs,n≤b:=by
 intro n hn
 unfold dV at hn
 obtain⟨x,hx,rfl⟩:=List.mem_map.1 hn
 exact h x hx
theorem d7.of_grown{P:Nat→Prop}{w w' :World}{row:Option Nat}(h:w.grownBy w' row)(hr:∀k,row=some k→P k):d7 P w w' :=
 ⟨h.os,h.tape,h.output,h.size,fun k hk hp=>h.block k hk fun e=>hp (hr k e.symm)⟩
theorem d7.weak{P Q:Nat→Prop}{w w' :World}(h:d7 P w w')(hpq:∀k,P k→Q k):d7 Q w w' :=⟨h.os,h.tape,h.output,h.size,fun k hk hq=>h.block k hk fun hp=>hq (hpq k hp)⟩
theorem U1{P:Nat→Prop}{w w' :World}{base:Nat}{e:TypeId}{sz n:Nat}{v:Value}{cs:List Value}(h:w.ownsRow base e sz v n cs)(ht:d7 P w w')(hp:∀k,v.ownBlock=some k→¬P k):w'.ownsRow base e sz v n cs:=by
 refine⟨h.1,?_⟩
 rcases h.2 with hn|⟨g,cap,cur,rfl,hb,hg,rest⟩
 ·exact .inl hn
 ·exact .inr ⟨g,cap,cur,rfl,hb,(ht.block g (Array.getElem?_eq_some_iff.1 hg).1 (hp g rfl)).trans hg,rest⟩
theorem aK.turns{P:Nat→Prop}{w w' :World}{base:Nat}{v:Value}{xs:List ByteArray}(h:aK w base v xs)(ht:d7 P w w')(hp:∀k,v.ownBlock=some k→¬P k):aK w' base v xs:=U1 h ht hp
theorem aY.turns{e:TypeId}{P:Nat→Prop}{w w' :World}{base:Nat}{v:Value}{vs:List (Int×Value)}{xs:List (St ByteArray)}(h:aY e w base v vs xs)(ht:d7 P w w')(hp:∀k,v.ownBlock=some k→¬P k)(hi:∀u∈vs,∀k,u.2.ownBlock=some k→¬P k):aY e w' base v vs xs:=
 ⟨U1 h.row ht hp,h.sees.len,fun i x hx=>by
  obtain⟨u,h1,h2,h3⟩:=h.sees.at_ i x hx
  exact⟨u,h1,h2.turns ht (hi _ (List.mem_of_getElem? h1)),h3⟩⟩
theorem yM:∀(us:List (Int×Value)) (k:Nat) (a:Int) {u:Int×Value},us[k]? =some u→(bQ us).set (k*2) (.int .i64 a)=bQ (us.set k (a,u.2))
 |[],k,a,u,h=>by simp at h
 |x::us,0,a,u,h=>by cases h;rfl
 |x::us,k+1,a,u,h=>by
  rw[List.getElem?_cons_succ] at h
  have e:∀(y:Int×Value) (l:List (Int×Value)),bQ (y::l)= .int .i64 y.1::y.2::bQ l:=fun _ _=>rfl
  rw[e,show(k+1)*2=k*2+1+1 by omega,List.set_cons_succ,List.set_cons_succ,List.set_cons_succ,e,yM us k a h]
theorem aY.setKnown{e:TypeId}{w:World}{base g n c k:Nat}{us:List (Int×Value)}{ys:List (St ByteArray)}{u:Int×Value}{x:St ByteArray}(h:aY e w base (.slice (some ⟨g,0,none⟩) n c) us ys)(hn:n=us.length)(hk:us[k]? =some u)(hx:ys[k]? =some x)(q:Int):
  aY e (w.setCell ⟨g,k*2,none⟩ (.int .i64 q)) base (.slice (some ⟨g,0,none⟩) n c) (us.set k (q,u.2)) (ys.set k ⟨q,x.op⟩):=by
 subst hn
 have hst:=(World.ownsRow.stored h.row (k*2) (.int .i64 q)).1
 rw[yM us k q hk] at hst
 have hkl:=(List.getElem?_eq_some_iff.1 hk).1
 have hl:=h.sees.len
 refine⟨by rw[List.length_set];exact hst,by rw[List.length_set,List.length_set];exact hl,fun i y hy=> ?_⟩
 have hkeep:∀(v:Value) (zs:List ByteArray),aK w base v zs→(v.ownBlock=none∨v.ownBlock≠some g)→aK (w.setCell ⟨g,k*2,none⟩ (.int .i64 q)) base v zs:=fun v zs h1 h2=>h1.kept (row:=some g) (gE (World.grownBy.refl w (some g)) _ _) h2
 rw[List.getElem?_set] at hy
 by_cases hik:k=i
 ·subst hik
  rw[if_pos rfl,if_pos (by omega)] at hy
  cases hy
  obtain⟨v,h1,h2,h3⟩:=h.sees.at_ k x hx
  rw[hk] at h1
  cases h1
  exact⟨v,by rw[List.getElem?_set_self hkl],hkeep _ _ h2 h3,h3⟩
 ·rw[if_neg hik] at hy
  obtain⟨v,h1,h2,h3⟩:=h.sees.at_ i y hy
  exact⟨v,by rw[List.getElem?_set,if_neg hik];exact h1,hkeep _ _ h2 h3,h3⟩
theorem TQ{us:List (Int×Value)}(hap:us.Pairwise fun u v=>∀k,u.2.ownBlock=some k→v.2.ownBlock≠some k){i k:Nat}{u v:Int×Value}(hk:us[k]? =some u)(hi:us[i]? =some v)(hne:k≠i):∀j,u.2.ownBlock=some j→v.2.ownBlock≠some j:=by
 obtain⟨hkl,rfl⟩:=List.getElem?_eq_some_iff.1 hk
 obtain⟨hil,rfl⟩:=List.getElem?_eq_some_iff.1 hi
 intro j h1 h2
 rw[List.pairwise_iff_getElem] at hap
 rcases Nat.lt_or_gt_of_ne hne with h|h
 ·exact hap k i hkl hil h j h1 h2
 ·exact hap i k hil hkl h j h2 h1
theorem aY.setOpen{e:TypeId}{w w' :World}{base k:Nat}{p:Value}{us:List (Int×Value)}{ys:List (St ByteArray)}{u:Int×Value}{x:St ByteArray}{zs:List ByteArray}(h:aY e w base p us ys)(hap:us.Pairwise fun u v=>∀k,u.2.ownBlock=some k→v.2.ownBlock≠some k)(hk:us[k]? =some u)(hx:ys[k]? =some x)(hg:w.grownBy w' u.2.ownBlock)(ho:aK w' base u.2 zs):
  aY e w' base p us (ys.set k ⟨x.known,zs⟩):=by
 have hkl:=(List.getElem?_eq_some_iff.1 hk).1
 have hl:=h.sees.len
 obtain⟨v0,hv1,hv2,hv3⟩:=h.sees.at_ k x hx
 rw[hk] at hv1
 cases hv1
 have hpne:p.ownBlock=none∨p.ownBlock≠v0.ownBlock:=by
  cases hp:p.ownBlock with
  |none=>exact .inl rfl
  |some j=>
   right
   rcases hv3 with h1|h1
   ·rw[h1];simp
   ·rw[hp] at h1;exact fun e2=>h1 e2.symm
 refine⟨World.ownsRow.kept h.row hg hpne,by rw[List.length_set];exact hl,fun i y hy=> ?_⟩
 rw[List.getElem?_set] at hy
 by_cases hik:k=i
 ·subst hik
  rw[if_pos rfl,if_pos (by omega)] at hy
  cases hy
  exact⟨v0,hk,ho,hv3⟩
 ·rw[if_neg hik] at hy
  obtain⟨v,h1,h2,h3⟩:=h.sees.at_ i y hy
  refine⟨v,h1,h2.kept hg ?_,h3⟩
  cases hv:v.ownBlock with
  |none=>exact .inl rfl
  |some j=>
   right
   intro e2
   exact TQ hap hk h1 hik j e2.symm hv
def zK(p:Value)(vs:List (Int×Value))(b:Nat):Prop:=p.ownBlock=some b∨∃v∈vs.map Prod.snd,v.ownBlock=some b
theorem RC{us vs:List (Int×Value)}(h:us.map Prod.snd=vs.map Prod.snd)(hap:vs.Pairwise fun u v=>∀k,u.2.ownBlock=some k→v.2.ownBlock≠some k):us.Pairwise fun u v=>∀k,u.2.ownBlock=some k→v.2.ownBlock≠some k:=by
 have h1:(vs.map Prod.snd).Pairwise fun u v=>∀k,u.ownBlock=some k→v.ownBlock≠some k:=List.pairwise_map.2 hap
 rw[←h] at h1
 exact List.pairwise_map.1 h1
theorem J6{us vs:List (Int×Value)}(h:us.map Prod.snd=vs.map Prod.snd){k:Nat}{u:Int×Value}(hk:us[k]? =some u)(q:Int):(us.set k (q,u.2)).map Prod.snd=vs.map Prod.snd:=by
 rw[List.map_set,←h]
 apply List.ext_getElem?
 intro i
 rw[List.getElem?_set]
 by_cases hik:k=i
 ·subst hik
  rw[if_pos rfl,List.getElem?_map,hk]
  have:=(List.getElem?_eq_some_iff.1 hk).1
  rw[if_pos (by rw[List.length_map];exact this)];rfl
 ·rw[if_neg hik]
theorem N6{xs ys:List (St ByteArray)}(h:dV ys=dV xs){k:Nat}{y:St ByteArray}(hk:ys[k]? =some y)(q:Int){zs:List ByteArray}(hz:zs.length=y.op.length):dV (ys.set k ⟨q,zs⟩)=dV xs:=by
 rw[←h]
 unfold dV
 apply List.ext_getElem?
 intro i
 rw[List.map_set,List.getElem?_set]
 by_cases hik:k=i
 ·subst hik
  have:=(List.getElem?_eq_some_iff.1 hk).1
  rw[if_pos rfl,if_pos (by rw[List.length_map];exact this),List.getElem?_map,hk]
  show some zs.length=some y.op.length
  rw[hz]
 ·rw[if_neg hik]
theorem IL(base:Nat)(A:Option Addr)(n c:Nat)(vs:List (Int×Value))(xs:List (St ByteArray))(k0:Nat)(w:World)(hn:n=xs.length)(hl:n≤1048576)(hs:∀x∈xs,x.op.length≤1048576)(hk:1≤k0)(hk2:k0≤4194304)(hO:aY 30 w base (.slice A n c) vs xs)(hap:vs.Pairwise fun u v=>∀k,u.2.ownBlock=some k→v.2.ownBlock≠some k):
  Calls Tryz.prog 80 #[.slice A n c,.int .i64 k0] w fun e w' =>e= .returned (.int .i64 ((k0+f8 (dV xs):Nat):Int))∧(∃us,aY 30 w' base (.slice A n c) us (j4 k0 (dV xs))∧us.map Prod.snd=vs.map Prod.snd)∧d7 (zK (.slice A n c) vs) w w' :=by
 subst hn
 have HO:=zH hO
 have HAP:=zH hap
 have HCB:=zH (fun i=>CW (ns:=dV xs) (by rw[oO];exact hl) (zI hs) i)
 have HS:=zH hs
 rcases hO.row.2 with⟨hv,hz⟩|⟨g,cap,cur,hv,hb,hg,hnc,hcm,hcs,_⟩
 ·simp only[Value.slice.injEq] at hv
  obtain⟨rfl,hle',rfl⟩:=hv
  clear hle'
  have hv0:vs.length=0:=hz
  have hx0:xs=[]:=List.eq_nil_of_length_eq_zero (by rw[←hO.sees.len];exact hv0)
  subst hx0
  clear hO hz hap hs
  go_enter Tryz.func80,Tryz.ntmps80
  go_wp2_with fail
  refine wp_loop_rounds 1 ?_
  rw[rounds_succ]
  go_wp2_with fail
  go_ret
  exact⟨by simp[dV,f8],⟨vs,HO.out,rfl⟩,d7.refl _ w⟩
 ·simp only[Value.slice.injEq] at hv
  obtain⟨rfl,hle',rfl⟩:=hv
  clear hle'
  have hgl:g<w.heap.size:=(Array.getElem?_eq_some_iff.1 hg).1
  clear hO hg hcs hap hs
  go_enter Tryz.func80,Tryz.ntmps80
  go_wp2_with fail
  go_loopw [1,5] (fun q i wr=>∃(k:Nat) (us:List (Int×Value)) (ys:List (St ByteArray)),k≤xs.length∧i= .int .i64 k∧q= .int .i64 ((k0+f8 ((dV xs).take k):Nat):Int)∧Hid (us.map Prod.snd=vs.map Prod.snd)∧Hid (dV ys=dV xs)∧Hid (∀(i:Nat) (y:St ByteArray),i<k→ys[i]? =some y→(j4 k0 (dV xs))[i]? =some y)∧
   Hid (aY 30 wr base (.slice (some ⟨g,0,none⟩) xs.length c) us ys)∧Hid (d7 (zK (.slice (some ⟨g,0,none⟩) xs.length c) vs) w wr)) (fun _ i _=>xs.length-(Go.RowKit.intOf i).toNat)
  case atStart=>exact⟨0,vs,xs,Nat.zero_le _,rfl,by simp[f8],rfl,rfl,(fun i y h=>by omega),HO.out,d7.refl _ w⟩
  case round=>
   obtain⟨k,us,ys,hk',rfl,rfl,hsnd,hlen,hso,HW,HG⟩:=hrel
   have hyl:ys.length=xs.length:=by have h:=congrArg List.length hlen.out;rw[oO,oO] at h;exact h
   have hul:us.length=xs.length:=by rw[←hyl];exact HW.out.sees.len
   have HUL:=zH hul
   have HYL:=zH hyl
   clear hyl hul
   by_cases hlt:k<xs.length
   ·obtain⟨y,HY⟩:∃y,Hid (ys[k]? =some y):=⟨_,List.getElem?_eq_getElem (by rw[HYL.out];exact hlt)⟩
    obtain⟨v,hv1,hv2,hv3⟩:=HW.out.sees.at_ k y HY.out
    have HV1:=zH hv1
    have HLK:Hid ((dV xs)[k]? =some y.op.length):=by unfold Hid;rw[←hlen.out];exact PS HY.out
    have hyo:y.op.length≤1048576:=zI HS.out _ (List.mem_of_getElem? HLK.out)
    obtain⟨Ai,ci,rfl,_⟩:=hv2.form
    obtain⟨p,HP⟩:∃p:Nat,Hid (k0+f8 ((dV xs).take k)=p):=⟨_,rfl⟩
    have hp1:1≤p:=by rw[←HP.out];omega
    have hp2:p≤2199023255552:=by have:=HCB.out k;rw[←HP.out];omega
    rw[HP.out]
    have HROW:Hid (wr.ownsRow base 30 2 (.slice (some ⟨g,0,none⟩) xs.length c) xs.length (bQ us)):=by
     have:=HW.out.row
     rw[HUL.out] at this
     exact this
    have hcA:=HROW.out.cellAt (k*2) (by omega)
    have hfA:=HROW.out.frozenAt (k*2)
    rw[(gO us k _ HV1.out).1] at hcA
    have HW2:=zH (aY.setKnown HW.out HUL.out.symm HV1.out HY.out (p:Int))
    have HGET:Hid ((us.set k ((p:Int),.slice Ai y.op.length ci))[k]? =some ((p:Int),.slice Ai y.op.length ci)):=by unfold Hid;rw[List.getElem?_set_self (by rw[HUL.out];exact hlt)]
    have HGEY:Hid ((ys.set k ⟨(p:Int),y.op⟩)[k]? =some ⟨(p:Int),y.op⟩):=by unfold Hid;rw[List.getElem?_set_self (by rw[HYL.out];exact hlt)]
    have HROW2:Hid ((wr.setCell ⟨g,k*2,none⟩ (.int .i64 (p:Int))).ownsRow base 30 2 (.slice (some ⟨g,0,none⟩) xs.length c) xs.length (bQ (us.set k ((p:Int),.slice Ai y.op.length ci)))):=by
     have:=HW2.out.row
     rw[List.length_set,HUL.out] at this
     exact this
    have hcB:=HROW2.out.cellAt (k*2+1) (by omega)
    rw[(gO _ k _ HGET.out).2] at hcB
    have HOW:Hid (aK (wr.setCell ⟨g,k*2,none⟩ (.int .i64 (p:Int))) base (.slice Ai y.op.length ci) y.op):=hv2.kept (row:=some g) (gE (World.grownBy.refl wr (some g)) _ _) hv3
    have HG1:Hid (d7 (zK (.slice (some ⟨g,0,none⟩) xs.length c) vs) w (wr.setCell ⟨g,k*2,none⟩ (.int .i64 (p:Int)))):=HG.out.trans (d7.of_grown (gE (World.grownBy.refl wr (some g)) _ _) fun j e=> .inl (by cases e;rfl))
    have HBK:Hid (∀j,(Value.slice Ai y.op.length ci).ownBlock=some j→zK (.slice (some ⟨g,0,none⟩) xs.length c) vs j):=fun j e=> .inr ⟨_,by rw[←hsnd.out];exact List.mem_map.2 ⟨_,List.mem_of_getElem? HV1.out,rfl⟩,e⟩
    have HM:=zH (vE base Ai y.op.length ci y.op (p+1) _ rfl hyo (by omega) (by omega) HOW.out)
    rw[show((p+1:Nat):Int)=(p:Int)+1 by omega] at HM
    clear hv1 hv2 hv3
    go_wp2_with fail
    refine HM.out.mono ?_
    rintro e w2 ⟨rfl,ho,hg⟩
    have HX3:=zH (HW2.out.setOpen (RC (J6 hsnd.out HV1.out (p:Int)) HAP.out) HGET.out HGEY.out hg ho)
    have HG3:=zH (HG1.out.trans (d7.of_grown hg HBK.out))
    clear ho hg hcA hfA hcB
    go_wp2_with fail
    go_roundw
    case rel=>
     have hx3:=HX3.out
     rw[List.set_set] at hx3
     refine⟨k+1,_,_,by omega,by go_num,by rw[u5 _ k _ HLK.out,show k0+(f8 ((dV xs).take k)+1+y.op.length)=p+1+y.op.length by rw[←HP.out];omega];go_num,J6 hsnd.out HV1.out (p:Int),N6 hlen.out HY.out (p:Int) (pA _ _),?_,hx3,HG3.out⟩
     intro i y' hi hy'
     rw[List.getElem?_set] at hy'
     by_cases e:k=i
     ·subst e
      rw[if_pos rfl,if_pos (by rw[HYL.out];exact hlt)] at hy'
      cases hy'
      rw[v8 _ k0 k _ HLK.out,HP.out]
     ·rw[if_neg e] at hy'
      exact hso.out i y' (by omega) hy'
    case measure=>simp[Go.RowKit.intOf];omega
   ·obtain rfl:k=xs.length:=by omega
    have HE:Hid (ys=j4 k0 (dV xs)):=by
     unfold Hid
     apply List.ext_getElem?
     intro i
     by_cases hi:i<xs.length
     ·obtain⟨d,hd⟩:∃d,ys[i]? =some d:=⟨_,List.getElem?_eq_getElem (by rw[HYL.out];exact hi)⟩
      rw[hd,hso.out i d hi hd]
     ·rw[List.getElem?_eq_none (by rw[HYL.out];omega),List.getElem?_eq_none (by rw[uA,oO];omega)]
    rw[HE.out] at HW
    have HTK:Hid ((dV xs).take xs.length=dV xs):=by
     have:=List.take_length (l:=dV xs)
     rw[oO] at this
     exact this
    rw[HTK.out]
    go_wp2_with fail
    go_ret
    exact⟨rfl,⟨us,HW.out,hsnd.out⟩,HG.out⟩
theorem II(A:Option Addr)(n c:Nat)(ns:List Nat)(k0:Nat)(w:World)(hn:n=ns.length)(hl:n≤1048576)(hs:∀x∈ns,x≤1048576)(hk:1≤k0)(hk2:k0≤4194304)(hA:b6 w A (j4 k0 ns)):
  Calls Tryz.prog 82 #[.slice A n c,.int .i64 k0] w fun e w' =>e= .returned (.int .i64 ((k0+f8 ns:Nat):Int))∧Below w.heap.size w w' :=by
 subst hn
 have HA:=zH hA
 have HCB:=zH (fun i=>CW hl hs i)
 have HS:=zH hs
 clear hA hs
 go_enter Tryz.func82,Tryz.ntmps82
 go_wp2_with fail
 go_loopw [1,5] (fun q i wr=>∃k:Nat,k≤ns.length∧i= .int .i64 k∧q= .int .i64 ((k0+f8 (ns.take k):Nat):Int)∧Hid (Below w.heap.size w wr)) (fun _ i _=>ns.length-(Go.RowKit.intOf i).toNat)
 case atStart=>exact⟨0,Nat.zero_le _,rfl,by simp[f8],Below.refl _ _⟩
 case round=>
  obtain⟨k,hk',rfl,rfl,HB⟩:=hrel
  by_cases hlt:k<ns.length
  ·obtain⟨m,hm⟩:∃m,ns[k]? =some m:=⟨_,List.getElem?_eq_getElem hlt⟩
   obtain⟨b,off,Ai,ci,x,rfl,he0,he1,_,_,hx,hAi,hbl⟩:=(HA.out.below HB.out).elem (i:=k) (by rw[uA];exact hlt)
   have hxe:=hx.out
   rw[v8 ns k0 k m hm] at hxe
   cases hxe
   have HM1:=zH hm
   have hm2:m≤1048576:=HS.out _ (List.mem_of_getElem? hm)
   obtain⟨p,HP⟩:∃p:Nat,Hid (k0+f8 (ns.take k)=p):=⟨_,rfl⟩
   have hp1:1≤p:=by rw[←HP.out];omega
   have hp2:p≤2199023255552:=by have:=HCB.out k;rw[←HP.out];omega
   simp only[pA] at he1
   rw[HP.out] at he0 hAi⊢
   have hne:((p:Int) != (p:Int))=false:=by simp
   have HM:=zH (fun W h=>vR Ai m ci (p+1) W (by omega) (by omega) hm2 h)
   rw[show((p+1:Nat):Int)=(p:Int)+1 by omega] at HM
   have hnn:decide (((p+1+m:Nat):Int)<0)=false:=decide_eq_false (by omega)
   clear hm hx
   go_wp2_with fail
   refine(HM.out _ hAi.out).mono ?_
   rintro e w2 ⟨rfl,hb⟩
   have HB2:=zH (aA HB.out hb)
   clear hb he0 he1 hne
   go_wp2_with fail
   go_roundw
   case rel=>exact⟨k+1,by omega,by go_num,by rw[u5 _ k _ HM1.out,show k0+(f8 (ns.take k)+1+m)=p+1+m by rw[←HP.out];omega];go_num,HB2⟩
   case measure=>simp[Go.RowKit.intOf];omega
  ·obtain rfl:k=ns.length:=by omega
   rw[List.take_length]
   go_wp2_with fail
   go_ret
   exact⟨rfl,HB.out⟩
theorem MN(base:Nat)(q:Int)(A:Option Addr)(n c:Nat)(ds:List ByteArray)(k0:Nat)(w:World)(hn:n=ds.length)(hl:n≤1048576)(hk:1≤k0)(hk2:k0≤35184372088832)(hO:aK w base (.slice A n c) ds):
  Calls Tryz.prog 79 #[.agg #[.int .i64 q,.slice A n c],.int .i64 k0] w fun e w' =>e= .returned (.int .i64 ((k0+n:Nat):Int))∧aK w' base (.slice A n c) (iM k0 n)∧d7 (fun b=>(Value.slice A n c).ownBlock=some b) w w' :=by
 have HB:Hid (Below w.heap.size w (w.alloc (.cells #[.int .i64 q,.slice A n c] 30))):=(Below.refl _ _).alloc (Nat.le_refl _) _
 have HM:=zH (vE base A n c ds k0 _ hn hl hk hk2 (hO.below HB.out))
 clear hn hl hO
 go_enter Tryz.func79,Tryz.ntmps79
 go_wp2_with fail
 refine HM.out.mono ?_
 rintro e w1 ⟨rfl,ho,hg⟩
 have HF:=zH (And.intro ho ((d7.of_below HB.out).trans (d7.of_grown hg (P:=fun b=>(Value.slice A n c).ownBlock=some b) fun k e=>e)))
 clear ho hg
 go_wp2_with fail
 go_ret
 exact⟨rfl,HF.out.1,HF.out.2⟩
theorem K5(q:Int)(A:Option Addr)(n c:Nat)(k0:Nat)(w:World)(hk:1≤k0)(hk2:k0≤35184372088832)(hn:n≤1048576)(ha:a7 w A (iM k0 n)):
  Calls Tryz.prog 81 #[.agg #[.int .i64 q,.slice A n c],.int .i64 k0] w fun e w' =>e= .returned (.int .i64 ((k0+n:Nat):Int))∧Below w.heap.size w w' :=by
 have HB:Hid (Below w.heap.size w (w.alloc (.cells #[.int .i64 q,.slice A n c] 30))):=(Below.refl _ _).alloc (Nat.le_refl _) _
 have HM:=zH (vR A n c k0 _ hk hk2 hn (ha.below HB.out))
 have hnn:decide (((k0+n:Nat):Int)<0)=false:=decide_eq_false (by omega)
 clear ha
 go_enter Tryz.func81,Tryz.ntmps81
 go_wp2_with fail
 refine HM.out.mono ?_
 rintro e w1 ⟨rfl,hb⟩
 have HF:=zH (aA HB.out hb)
 clear hb
 go_wp2_with fail
 go_ret
 exact⟨rfl,HF.out⟩
def BZ(o p:Value)(vs:List (Int×Value))(b:Nat):Prop:=o.ownBlock=some b∨zK p vs b
theorem aD.turns{P:Nat→Prop}{w w' :World}{b:Nat}{T:TypeId}{cs:List Value}(h:aD w b T cs)(ht:d7 P w w')(hp:¬P b):aD w' b T cs:=(ht.block b h.lt hp).trans h
theorem S5{e:TypeId}{w:World}{base:Nat}{v:Value}{vs:List (Int×Value)}{xs:List (St ByteArray)}(h:aY e w base v vs xs){b:Nat}(hb:zK v vs b):base≤b∧b<w.heap.size:=by
 rcases hb with hb|⟨u,hu,hb⟩
 ·exact h.lt hb
 ·obtain⟨x,hx,rfl⟩:=List.mem_map.1 hu
  exact h.inner x hx b hb
theorem CF{e:TypeId}{w:World}{base:Nat}{o v:Value}{vs:List (Int×Value)}{os:List ByteArray}{xs:List (St ByteArray)}(ho:aK w base o os)(h:aY e w base v vs xs){b:Nat}(hb:BZ o v vs b):base≤b∧b<w.heap.size:=by
 rcases hb with hb|hb
 ·exact ho.lt hb
 ·exact S5 h hb
theorem wR{w:World}{base base2:Nat}{o v:Value}{vs:List (Int×Value)}{os:List ByteArray}{xs:List (St ByteArray)}(ho:aK w base o os)(h:aY 30 w base2 v vs xs)(hap:pE o vs){b:Nat}(hb:o.ownBlock=some b):¬zK v vs b:=by
 rintro(h2|⟨u,hu,h2⟩)
 ·rcases eC ho h.row (by decide) with h3|h3
  ·rw[h3] at hb;cases hb
  ·exact h3 (hb.trans h2.symm)
 ·obtain⟨x,hx,rfl⟩:=List.mem_map.1 hu
  exact hap.1 x hx b h2 hb
theorem DO(t q:Int)(os:List ByteArray)(xs:List (St ByteArray))(A B:Option Addr)(n c m d lo:Nat)(vs:List (Int×Value))(w:World)(hn:n=os.length)(hm:m=xs.length)(hl:n≤1048576)(hl2:m≤1048576)(hs:∀x∈xs,x.op.length≤1048576)(hO:mE w lo (.slice A n c) (.slice B m d) vs os xs):
  Calls Tryz.prog 31 #[.agg #[.int .i64 t,.int .i64 q,.slice A n c,.slice B m d],.int .i64 1] w fun e w' =>e= .returned (.int .i64 ((1+n+f8 (dV xs):Nat):Int))∧aK w' lo (.slice A n c) (iM 1 n)∧(∃us,aY 30 w' lo (.slice B m d) us (j4 (1+n) (dV xs)))∧d7 (BZ (.slice A n c) (.slice B m d) vs) w w' :=by
 subst hm
 obtain⟨ho,hx,hap⟩:=hO
 have HX0:Hid (aD (w.alloc (.cells #[.int .i64 t,.int .i64 q,.slice A n c,.slice B xs.length d] 33)) w.heap.size 33 [.int .i64 t,.int .i64 q,.slice A n c,.slice B xs.length d]):=aD.new w _ [.int .i64 t,.int .i64 q,.slice A n c,.slice B xs.length d]
 have HB:Hid (Below w.heap.size w (w.alloc (.cells #[.int .i64 t,.int .i64 q,.slice A n c,.slice B xs.length d] 33))):=(Below.refl _ _).alloc (Nat.le_refl _) _
 have HM:=zH (MN lo q A n c os 1 _ hn hl (Nat.le_refl _) (by omega) (ho.below HB.out))
 rw[show((1:Nat):Int)=1 from rfl] at HM
 have HO:=zH ho
 have HX:=zH hx
 have HAP:=zH hap
 have HS:=zH hs
 clear ho hx hap hs hn
 go_enter Tryz.func31,Tryz.ntmps31
 go_wp2_with fail
 refine HM.out.mono ?_
 rintro e w1 ⟨rfl,ho,ht⟩
 have HT1:=zH ((d7.of_below (P:=fun b=>(Value.slice A n c).ownBlock=some b) HB.out).trans ht)
 have HX1:=zH (HX.out.turns HT1.out (fun k e1 e2=>wR HO.out HX.out HAP.out e2 (.inl e1)) (fun u hu k e1 e2=>wR HO.out HX.out HAP.out e2 (.inr ⟨_,List.mem_map.2 ⟨u,hu,rfl⟩,e1⟩)))
 have HBX:=zH (HX0.out.turns ht (fun e2=>by have:=(HO.out.lt e2).2;omega))
 have HO1:=zH ho
 have hc3:=HBX.out.cell (i:=3) (v:= .slice B xs.length d) rfl
 have HM2:=zH (IL lo B xs.length d vs xs (1+n) w1 rfl hl2 HS.out (by omega) (by omega) HX1.out HAP.out.2)
 clear ho ht HX0 HM
 go_wp2_with fail
 refine HM2.out.mono ?_
 rintro e w2 ⟨rfl,⟨us,hus,_⟩,ht⟩
 have HF:Hid (aK w2 lo (.slice A n c) (iM 1 n)∧d7 (BZ (.slice A n c) (.slice B xs.length d) vs) w w2):=⟨HO1.out.turns ht (fun k e1 e2=>wR HO.out HX.out HAP.out e1 e2),(HT1.out.weak fun k h=> .inl h).trans (ht.weak fun k h=> .inr h)⟩
 have HU:=zH hus
 clear ht hus hc3
 go_wp2_with fail
 go_ret
 exact⟨rfl,HF.out.1,⟨us,HU.out⟩,HF.out.2⟩
theorem OR(t q:Int)(A B:Option Addr)(n c m d:Nat)(ns:List Nat)(w:World)(hl:n≤1048576)(hm:m=ns.length)(hl2:m≤1048576)(hs:∀x∈ns,x≤1048576)(hA:a7 w A (iM 1 n))(hB:b6 w B (j4 (1+n) ns)):
  Calls Tryz.prog 32 #[.agg #[.int .i64 t,.int .i64 q,.slice A n c,.slice B m d],.int .i64 1] w fun e w' =>e= .returned (.int .i64 ((1+n+f8 ns:Nat):Int))∧Below w.heap.size w w' :=by
 subst hm
 have HX0:Hid (aD (w.alloc (.cells #[.int .i64 t,.int .i64 q,.slice A n c,.slice B ns.length d] 33)) w.heap.size 33 [.int .i64 t,.int .i64 q,.slice A n c,.slice B ns.length d]):=aD.new w _ [.int .i64 t,.int .i64 q,.slice A n c,.slice B ns.length d]
 have HB0:Hid (Below w.heap.size w (w.alloc (.cells #[.int .i64 t,.int .i64 q,.slice A n c,.slice B ns.length d] 33))):=(Below.refl _ _).alloc (Nat.le_refl _) _
 have HM:=zH (K5 q A n c 1 _ (Nat.le_refl _) (by omega) hl (hA.below HB0.out))
 rw[show((1:Nat):Int)=1 from rfl] at HM
 have HBR:=zH hB
 have HS:=zH hs
 have hnn:decide (((1+n:Nat):Int)<0)=false:=decide_eq_false (by omega)
 have hnn2:decide (((1+n+f8 ns:Nat):Int)<0)=false:=decide_eq_false (by omega)
 clear hA hB hs
 go_enter Tryz.func32,Tryz.ntmps32
 go_wp2_with fail
 refine HM.out.mono ?_
 rintro e w1 ⟨rfl,hb⟩
 have HX1:=zH (HX0.out.below hb)
 have HB1:=zH (aA HB0.out hb)
 have hc3:=HX1.out.cell (i:=3) (v:= .slice B ns.length d) rfl
 have HM2:=zH (II B ns.length d ns (1+n) w1 rfl hl2 HS.out (by omega) (by omega) (HBR.out.below HB1.out))
 clear hb
 go_wp2_with fail
 refine HM2.out.mono ?_
 rintro e w2 ⟨rfl,hb⟩
 have HB2:=zH (aA HB1.out hb)
 clear hb hc3
 go_wp2_with fail
 go_ret
 exact⟨rfl,HB2.out⟩
theorem sI.ownA{w:World}{lo mid:Nat}{T:aL}{o p:Value}{vs:List (Int×Value)}(h:sI w lo T o p vs mid):mE w lo o p vs T.now.op T.past:=by
 obtain⟨h1,h2,h3,h4,_,h6⟩:=h
 have hvl:=h3.sees.len
 refine⟨h1,h3.base h6,fun u hu k hk e=> ?_,h4.2.imp fun {u v} huv k h5 h7=>by have:=huv k k h5 h7;omega⟩
 obtain⟨i,hi⟩:=List.mem_iff_getElem?.1 hu
 have hil:=(List.getElem?_eq_some_iff.1 hi).1
 obtain⟨v,g1,g2⟩:=h4.1 i T.past[i] hil (List.getElem?_eq_getElem (by omega))
 rw[hi] at g1
 cases g1
 have a1:=(g2.lt hk).1
 have a2:=h2 k e
 omega
theorem mE.turns{P:Nat→Prop}{w w' :World}{lo:Nat}{o p:Value}{vs:List (Int×Value)}{os:List ByteArray}{xs:List (St ByteArray)}(h:mE w lo o p vs os xs)(ht:d7 P w w')(hp:∀b,BZ o p vs b→¬P b):mE w' lo o p vs os xs:=
 ⟨h.1.turns ht (fun k e=>hp k (.inl e)),h.2.1.turns ht (fun k e=>hp k (.inr (.inl e))) (fun u hu k e=>hp k (.inr (.inr ⟨_,List.mem_map.2 ⟨u,hu,rfl⟩,e⟩))),h.2.2⟩
theorem GU{w:World}{lo b:Nat}{o p:Value}{vs:List (Int×Value)}{os:List ByteArray}{xs:List (St ByteArray)}{T:TypeId}{cs:List Value}(h:mE w lo o p vs os xs)(hb:aD w b T cs)(hT:T≠9)(hT2:T≠30):¬BZ o p vs b:=by
 rintro(e|e|⟨u,hu,e⟩)
 ·exact iP hb h.1 hT b e rfl
 ·exact iP hb h.2.1.row hT2 b e rfl
 ·obtain⟨x,hx,rfl⟩:=List.mem_map.1 hu
  obtain⟨i,hi⟩:=List.mem_iff_getElem?.1 hx
  have hil:=(List.getElem?_eq_some_iff.1 hi).1
  have hl:=h.2.1.sees.len
  obtain⟨v,g1,g2,_⟩:=h.2.1.sees.at_ i xs[i] (List.getElem?_eq_getElem (by omega))
  rw[hi] at g1
  cases g1
  exact iP hb g2 hT b e rfl
theorem RZ{w:World}{lo n c:Nat}{A:Option Addr}{xs:List ByteArray}(h:aK w lo (.slice A n c) xs):a7 w A xs:=by
 obtain⟨A',c',e1,_,_,h4,_⟩:=h.form
 simp only[Value.slice.injEq] at e1
 obtain⟨rfl,_,rfl⟩:=e1
 exact h4
theorem SP{e:TypeId}{w:World}{lo n c:Nat}{B:Option Addr}{vs:List (Int×Value)}{xs:List (St ByteArray)}(h:aY e w lo (.slice B n c) vs xs):b6 w B xs:=by
 obtain⟨A',c',e1,_,_,h4,_⟩:=h.form
 simp only[Value.slice.injEq] at e1
 obtain⟨rfl,_,rfl⟩:=e1
 exact h4
end Go.Proofs.YtfhjcacfchkdpaaGreatDoor

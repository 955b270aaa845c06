/-
  What the proofs of this seat's statements share (PartM, Subs, Supp, Word).
-/
import Derived.RangeFuncNested
import Derived.RangeFuncBound
import Derived.RangeFuncCalls
import Derived.RangeFuncLeaves
import Derived.Shelf.Abstract
import Derived.Shelf.RegionOpen
import Derived.OwnWalkIn
import Derived.TacticsInMore
import Derived.LoopNIn
import Derived.LoopIn
import Derived.RangeFuncBox
import Derived.Outline
import Derived.Test.YtfhjcacfchkdpaaGreatDoorU6
set_option maxRecDepth 100000
set_option maxHeartbeats 32000000
namespace Go.Proofs.YtfhjcacfchkdpaaGreatDoor
open Go.RowKit
structure sJ (t:Int) (p:Nat→Int):Prop where
 ok:∀w,w<aP t→aO t (p w)=true
 self:∀w,w<aP t→aI (p w) w=true
 eq:∀w v,w<aP t→aI (p w) v=true→p v=p w
def kC(t:Int)(p:Nat→Int):List Int:=(List.range (aP t)).map p
def xE(x:Int)(w:Nat):Bool:=decide (((2^w:Nat):Int)≤x∧x<((2^(w+1):Nat):Int))
def mR(p:Nat→Int)(k:Nat):List Int:=((List.range k).filter fun w=>xE (p w) w).map p
theorem UM(p:Nat→Int)(k:Nat):mR p (k+1)=mR p k++if xE (p k) k=true then[p k] else[]:=by
 unfold mR
 rw[List.range_succ,List.filter_append,List.map_append]
 congr 1
 by_cases h:xE (p k) k=true
 ·simp[h]
 ·simp[h]
theorem VA(p:Nat→Int)(k:Nat):(mR p k).length≤k:=by
 unfold mR
 rw[List.length_map]
 refine Nat.le_trans (List.length_filter_le _ _) ?_
 rw[List.length_range];exact Nat.le_refl _
section
variable {t:Int} {p:Nat→Int}
theorem i8{x:Int}:x∈kC t p↔∃w,w<aP t∧p w=x:=by unfold kC;rw[List.mem_map];simp[List.mem_range]
theorem sD(h:sJ t p):∀x∈kC t p,aO t x=true:=by
 intro x hx
 obtain⟨w,hw,rfl⟩:=i8.1 hx
 exact h.ok w hw
theorem FC(h:sJ t p){w:Nat}(hw:w<aP t):0≤p w∧p w≤aJ t∧p w<256:=by
 have:=aZ (h.ok w hw);exact⟨this.2.2.1,this.2.2.2.1,this.2.2.2.2⟩
theorem L6(h:sJ t p){x y:Int}(hx:x∈kC t p)(hy:y∈kC t p)(hw:aB x y=true):x=y:=by
 obtain⟨v,hv,rfl⟩:=i8.1 hx
 obtain⟨w,hw2,rfl⟩:=i8.1 hy
 exact h.eq w v hw2 ((eA (FC h hv).1).1 hw v (h.self v hv))
theorem rS(h:sJ t p)(x:Int):x∈cR (kC t p)↔x∈kC t p:=by
 rw[kF (cV (sD h))]
 refine⟨fun h=>h.1,fun hx=>⟨hx,fun y hy=> ?_⟩⟩
 cases hw:aB x y
 ·exact .inr rfl
 ·exact .inl (L6 h hx hy hw).symm
theorem M9(h1:1≤t)(h3:t≤3)(h:sJ t p):dS t (kC t p):=
 ⟨fun e=>by
  have:=i8 (t:=t) (p:=p) (x:=p 0)
  rw[e] at this
  exact absurd (this.2 ⟨0,by have:=(o3 h1 h3).1;omega,rfl⟩) (by simp),sD h⟩
theorem BQ(h1:1≤t)(h3:t≤3)(h:sJ t p):b9 t (cR (kC t p))=true:=by
 have hg:=M9 h1 h3 h
 unfold b9
 rw[l9 hg.1 hg.2,Bool.true_and,List.all_eq_true]
 intro w hw
 rw[List.mem_range] at hw
 rw[decide_eq_true_eq]
 refine C1 (C3 (lL _)) ((rS h _).2 (i8.2 ⟨w,hw,rfl⟩)) (h.self w hw) fun y hy hyw=> ?_
 obtain⟨v,hv,rfl⟩:=i8.1 ((rS h y).1 hy)
 exact(h.eq v w hv hyw).symm
theorem KW:∀n:Nat,0<n→∃u,2^u≤n∧n<2^(u+1):=fun n hn=>⟨n.log2,Nat.log2_self_le (by omega),Nat.lt_log2_self⟩
theorem TW{n u:Nat}(h1:2^u≤n)(h2:n<2^(u+1)):n.testBit u=true:=by
 rw[Nat.testBit_eq_decide_div_mod_eq]
 rw[Nat.pow_succ] at h2
 have:n / 2^u=1:=by
  refine Nat.div_eq_of_lt_le ?_ ?_<;>omega
 rw[this];rfl
theorem WI(h1:1≤t)(h3:t≤3)(h:sJ t p):mR p (aP t)=cR (kC t p):=by
 refine qV ?_ (lL _) fun x=> ?_
 ·unfold mR
  rw[List.pairwise_map]
  have hs:((List.range (aP t)).filter fun w=>xE (p w) w).Pairwise (·<·):=List.Pairwise.sublist List.filter_sublist List.pairwise_lt_range
  have hm:∀w∈(List.range (aP t)).filter (fun w=>xE (p w) w),xE (p w) w=true:=fun w hw=>(List.mem_filter.1 hw).2
  refine List.Pairwise.imp_of_mem (fun {a b} ha hb hab=> ?_) hs
  have h1:=of_decide_eq_true (hm a ha)
  have h2:=of_decide_eq_true (hm b hb)
  have:2^(a+1)≤2^b:=Nat.pow_le_pow_right (by omega) hab
  omega
 ·rw[rS h,i8]
  unfold mR
  rw[List.mem_map]
  constructor
  ·rintro⟨w,hw,rfl⟩
   exact⟨w,List.mem_range.1 (List.mem_filter.1 hw).1,rfl⟩
  ·rintro⟨w,hw,rfl⟩
   have hp:=FC h hw
   have hne:0<(p w).toNat:=by
    rcases Nat.eq_zero_or_pos (p w).toNat with e|e
    ·have:=h.self w hw
     unfold aI at this
     rw[e,Nat.zero_testBit] at this;cases this
    ·exact e
   obtain⟨u,hu1,hu2⟩:=KW _ hne
   have hb:=TW hu1 hu2
   have hul:=fX h1 h3 hp.1 hp.2.1 (w:=u) hb
   have e:=h.eq w u hw hb
   refine⟨u,List.mem_filter.2 ⟨List.mem_range.2 hul,?_⟩,e⟩
   rw[e]
   exact decide_eq_true ⟨by omega,by omega⟩
end
theorem WH{t:Int}{sets:List Int}(h1:1≤t)(h3:t≤3):sJ t (lU t sets):=
 ⟨fun w _=>I8 h1 h3 w,fun w hw=>vH hw,fun w v hw hv=>by rw[mY,Bool.and_eq_true] at hv;exact CO hv.2⟩
theorem XY(t:Int)(sets:List Int):jM t sets=kC t (lU t sets):=rfl
theorem U6(x y:Int)(w:Nat):aI (fM x y) w=(aI x w||aI y w):=by unfold aI fM;rw[Int.toNat_natCast,Nat.testBit_or]
theorem nB(x y:Int)(w:Nat):aI (aQ x y) w=(aI x w&&aI y w):=by unfold aI aQ;rw[Int.toNat_natCast,Nat.testBit_and]
theorem mV{x y:Int}:aQ x y=0↔∀w,aI x w=true→aI y w=false:=by
 constructor
 ·intro h w hx
  have:=nB x y w
  rw[h,hx] at this
  unfold aI at*
  rw[Int.toNat_zero,Nat.zero_testBit] at this
  simpa using this.symm
 ·intro h
  have e:(aQ x y).toNat=0:=Nat.eq_of_testBit_eq fun i=>by
   have:=nB x y i
   unfold aI at this
   rw[this,Nat.zero_testBit]
   cases hx:x.toNat.testBit i
   ·rfl
   ·rw[show y.toNat.testBit i=false from h i hx];rfl
  have:=aR x y
  omega
def qZ(xs:List Int)(k:Nat):Prop:=∀i x,i<k→xs[i]? =some x→aQ (aV (xs.take i)) x=0
theorem WM(xs:List Int):qZ xs 0:=fun _ _ h=>by omega
theorem XA{xs:List Int}{k:Nat}{x:Int}(h:qZ xs k)(hx:Hid (xs[k]? =some x))(e:aQ (aV (xs.take k)) x=0):qZ xs (k+1):=fun i y hi hy=>by
 by_cases hik:i=k
 ·subst hik
  have:=hx.out
  rw[this] at hy
  cases hy;exact e
 ·exact h i y (by omega) hy
theorem IQ{xs:List Int}{k:Nat}{x:Int}(hx:xs[k]? =some x):aV (xs.take (k+1))=fM (aV (xs.take k)) x:=by
 unfold aV;rw[gG (show Hid _ from hx),List.foldl_append];rfl
theorem zX{xs:List Int}{k:Nat}(h:qZ xs k)(w:Nat):∀i,i≤k→i≤xs.length→((xs.take i).filter fun x=>aI x w).length=if aI (aV (xs.take i)) w=true then 1 else 0:=by
 intro i
 induction i with
 |zero=>intro _ _;rw[List.take_zero];simp[aV,aI]
 |succ i ih=>
  intro hi hl
  have ih:=ih (by omega) (by omega)
  obtain⟨x,hx⟩:∃x,xs[i]? =some x:=⟨xs[i],by rw[List.getElem?_eq_getElem (by omega)]⟩
  have hz:=mV.1 (h i x (by omega) hx) w
  rw[IQ hx,U6,gG (show Hid _ from hx),List.filter_append,List.length_append,ih]
  cases h1:aI (aV (xs.take i)) w
  ·cases h2:aI x w<;>simp[h2]
  ·have h2:=hz h1
   simp[h2]
theorem XV{t:Int}{xs:List Int}{k:Nat}{x:Int}(h1:1≤t)(h3:t≤3)(hs:∀x∈xs,aO t x=true)(hx:Hid (xs[k]? =some x))(h:qZ xs k)(e:aQ (aV (xs.take k)) x≠0):b9 t xs=false:=by
 have hlt:=CI hx
 have hne:¬∀w,aI (aV (xs.take k)) w=true→aI x w=false:=fun hh=>e (mV.2 hh)
 have:∃w,aI (aV (xs.take k)) w=true∧aI x w=true:=Classical.byContradiction fun hh=>hne fun w hw=>by
  cases hxw:aI x w
  ·rfl
  ·exact absurd ⟨w,hw,hxw⟩ hh
 obtain⟨w,hu,hxw⟩:=this
 have hc:=zX h w k (Nat.le_refl _) (by omega)
 rw[if_pos hu] at hc
 have hx2:=aZ (hs x (eG hx))
 have hwl:=fX h1 h3 hx2.2.2.1 hx2.2.2.2.1 hxw
 have h2:((xs.take (k+1)).filter fun x=>aI x w).length=2:=by
  rw[gG hx,List.filter_append,List.length_append,hc];simp[hxw]
 have h4:((xs.take (k+1)).filter fun x=>aI x w).length≤(xs.filter fun x=>aI x w).length:=((List.take_sublist _ _).filter _).length_le
 unfold b9
 rw[Bool.and_eq_false_iff]
 right
 rw[List.all_eq_false]
 exact⟨w,List.mem_range.2 hwl,by rw[decide_eq_true_eq];omega⟩
theorem JZ{t:Int}(h1:1≤t)(h3:t≤3){w:Nat}(hw:w<aP t):aI (aJ t) w=true:=by
 rw[(o3 h1 h3).2]
 unfold aI
 rw[show(((2^aP t:Nat):Int)-1).toNat=2^aP t-1 by omega,Nat.testBit_two_pow_sub_one,decide_eq_true hw]
theorem YF{t:Int}{xs:List Int}(ho:aC t xs=true)(h:qZ xs xs.length):b9 t xs=decide (aV xs=aJ t):=by
 obtain⟨h1,h3⟩:=cN ho
 have hu:=iQ ho
 have hc:=fun w=>zX h w xs.length (Nat.le_refl _) (Nat.le_refl _)
 simp only[List.take_length] at hc
 unfold b9
 rw[ho,Bool.true_and,Bool.eq_iff_iff,List.all_eq_true,decide_eq_true_eq]
 constructor
 ·intro hh
  refine eB hu.1 (bH t).1 fun w=> ?_
  by_cases hw:w<aP t
  ·have:=of_decide_eq_true (hh w (List.mem_range.2 hw))
   rw[hc w] at this
   rw[JZ h1 h3 hw]
   cases e:aI (aV xs) w
   ·rw[e] at this;simp at this
   ·rfl
  ·have a:aI (aV xs) w=false:=by
    cases e:aI (aV xs) w
    ·rfl
    ·exact absurd (fX h1 h3 hu.1 hu.2 e) hw
   have b:aI (aJ t) w=false:=by
    cases e:aI (aJ t) w
    ·rfl
    ·exact absurd (fX h1 h3 (bH t).1 (Int.le_refl _) e) hw
   rw[a,b]
 ·intro e w hw
  rw[decide_eq_true_eq,hc w,e,JZ h1 h3 (List.mem_range.1 hw)];rfl
def jO(x s:Int):Int:=if aQ x s=0 then x else fM x s
def dB(sets:List Int)(x:Int):Int:=sets.foldl jO x
def jP(sets:List Int):Nat→Int→Int
 |0,x=>x
 |n+1,x=>jP sets n (dB sets x)
def qD(sets:List Int)(z:Int):Prop:=∀s∈sets,aQ z s=0∨aB s z=true
theorem k6(x:Int)(h:0≤x):aB x x=true:=(eA h).2 fun _ h=>h
theorem kA{x:Int}(s:Int)(h:0≤x):0≤jO x s:=by unfold jO;split;exact h;exact gB _ _
theorem zC{x:Int}(s:Int)(h:0≤x):aB x (jO x s)=true:=by
 unfold jO;split
 ·exact k6 x h
 ·exact tF x s h
theorem oE:∀(sets:List Int) (x:Int),0≤x→0≤dB sets x
 |[],_,h=>h
 |s::r,_,h=>oE r _ (kA s h)
theorem qX:∀(sets:List Int) (x:Int),0≤x→aB x (dB sets x)=true
 |[],x,h=>k6 x h
 |s::r,_,h=>cC h (kA s h) (zC s h) (qX r _ (kA s h))
theorem oR{x y:Int}(hx:0≤x)(h:aB x y=true){w:Nat}(hw:aI x w=true):aI y w=true:=(eA hx).1 h w hw
theorem IU{x s z:Int}(h:0≤x)(hs:0≤s)(hxz:aB x z=true)(hc:aQ z s=0∨aB s z=true):aB (jO x s) z=true:=by
 unfold jO;split
 ·exact hxz
 ·rename_i hne
  rcases hc with hc|hc
  ·refine absurd (mV.2 fun w hw=> ?_) hne
   exact mV.1 hc w (oR h hxz hw)
  ·exact rQ h hs hxz hc
theorem tI:∀(sets:List Int) (x z:Int),0≤x→(∀s∈sets,0≤s)→aB x z=true→qD sets z→aB (dB sets x) z=true
 |[],x,z,_,_,hxz,_=>hxz
 |s::r,x,z,h,hp,hxz,hc=>tI r _ z (kA s h) (fun y hy=>hp y (List.mem_cons_of_mem _ hy)) (IU h (hp s (by simp)) hxz (hc s (by simp))) fun y hy=>hc y (List.mem_cons_of_mem _ hy)
theorem sB:∀(sets:List Int) (x:Int),0≤x→(∀s∈sets,0≤s)→dB sets x=x→qD sets x
 |[],_,_,_,_=>fun _ h=>by cases h
 |s::r,x,h,hp,he=>by
  have h1:=zC s h
  have h2:=qX r _ (kA s h)
  have he2:dB r (jO x s)=x:=he
  rw[he2] at h2
  have e:jO x s=x:=jB (kA s h) h h2 h1
  rw[e] at he2
  have ih:=sB r x h (fun y hy=>hp y (List.mem_cons_of_mem _ hy)) he2
  intro y hy
  rcases List.mem_cons.1 hy with rfl|hy
  ·unfold jO at e
   split at e
   ·exact .inl ‹_›
   ·right
    have:=o6 x y (hp y (by simp))
    rwa [e] at this
  ·exact ih y hy
theorem WE:∀(sets:List Int) (x:Int),0≤x→(∀s∈sets,0≤s)→qD sets x→dB sets x=x:=fun sets x h hp hc=>
 jB (oE sets x h) h (tI sets x x h hp (k6 x h) hc) (qX sets x h)
theorem wM{sets:List Int}{x:Int}(h:dB sets x=x):∀n,jP sets n x=x
 |0=>rfl
 |n+1=>by unfold jP;rw[h];exact wM h n
theorem rW{sets:List Int}:∀n (x:Int),0≤x→0≤jP sets n x
 |0,_,h=>h
 |n+1,x,h=>rW n _ (oE sets x h)
theorem zB{sets:List Int}:∀n (x:Int),0≤x→aB x (jP sets n x)=true
 |0,x,h=>k6 x h
 |n+1,x,h=>cC h (oE sets x h) (qX sets x h) (zB n _ (oE sets x h))
theorem sE{sets:List Int}(hp:∀s∈sets,0≤s){z:Int}(hc:qD sets z):∀n (x:Int),0≤x→aB x z=true→aB (jP sets n x) z=true
 |0,_,_,h=>h
 |n+1,x,h,hz=>sE hp hc n _ (oE sets x h) (tI sets x z h hp hz hc)
def lA(sets:List Int)(x:Int):Nat:=(sets.filter fun s=>aB s x).length
theorem KK(sets:List Int)(hp:∀s∈sets,0≤s){x y:Int}(hx:0≤x)(h:aB x y=true):lA sets x≤lA sets y:=by
 unfold lA
 rw[←List.countP_eq_length_filter,←List.countP_eq_length_filter]
 exact List.countP_mono_left fun s hs hw=>cC (hp s hs) hx hw h
theorem AZ:∀(sets:List Int) (_hp:∀s∈sets,0≤s) {x y s:Int} (_hx:0≤x) (_h:aB x y=true) (_hs:s∈sets) (_h1:aB s x=false) (_h2:aB s y=true),lA sets x<lA sets y
 |a::r,hp,x,y,s,hx,h,hs,h1,h2=>by
  have hm:=KK r (fun z hz=>hp z (List.mem_cons_of_mem _ hz)) hx h
  unfold lA at*
  simp only[List.filter_cons]
  rcases List.mem_cons.1 hs with rfl|hs
  ·rw[h1,h2];simp only[if_true,Bool.false_eq_true,if_false,List.length_cons];omega
  ·have ih:=AZ r (fun z hz=>hp z (List.mem_cons_of_mem _ hz)) hx h hs h1 h2
   unfold lA at ih
   cases ha:aB a x
   ·cases hb:aB a y<;>simp<;>omega
   ·have hb:aB a y=true:=cC (hp a (by simp)) hx ha h
    rw[hb];simp;omega
theorem zU:∀(sets:List Int) (x:Int),0≤x→(∀s∈sets,0≤s)→dB sets x≠x→∃s∈sets,aB s x=false∧aB s (dB sets x)=true
 |[],_,_,_,h=>absurd rfl h
 |s::r,x,h,hp,hne=>by
  by_cases e:jO x s=x
  ·have hne2:dB r x≠x:=fun e2=>hne (by show dB r (jO x s)=x;rw[e,e2])
   obtain⟨y,hy,h1,h2⟩:=zU r x h (fun z hz=>hp z (List.mem_cons_of_mem _ hz)) hne2
   refine⟨y,List.mem_cons_of_mem _ hy,h1,?_⟩
   show aB y (dB r (jO x s))=true
   rw[e];exact h2
  ·have e2:jO x s=fM x s:=by
    unfold jO at e⊢
    split at e
    ·exact absurd rfl e
    ·rename_i hn;rw[if_neg hn]
   refine⟨s,by simp,?_,?_⟩
   ·cases hw:aB s x
    ·rfl
    ·exact absurd (jB (kA s h) h (by rw[e2];exact rQ h (hp s (by simp)) (k6 x h) hw) (zC s h)) e
   ·show aB s (dB r (jO x s))=true
    refine cC (hp s (by simp)) (kA s h) ?_ (qX r _ (kA s h))
    rw[e2];exact o6 x s (hp s (by simp))
theorem vC{sets:List Int}(hp:∀s∈sets,0≤s):∀n (x:Int),0≤x→sets.length<lA sets x+n→dB sets (jP sets n x)=jP sets n x
 |0,x,_,h=>by
  have:lA sets x≤sets.length:=List.length_filter_le _ _
  omega
 |n+1,x,hx,h=>by
  by_cases e:dB sets x=x
  ·rw[wM e];exact e
  ·obtain⟨s,hs,h1,h2⟩:=zU sets x hx hp e
   have:=AZ sets hp hx (qX sets x hx) hs h1 h2
   exact vC hp n _ (oE sets x hx) (by omega)
def qS(sets:List Int)(x:Int):Int:=jP sets (sets.length+1) x
theorem oC{sets:List Int}{x:Int}(h:0≤x):0≤qS sets x:=rW _ x h
theorem CD{sets:List Int}{x:Int}(h:0≤x):aB x (qS sets x)=true:=zB _ x h
theorem lJ{sets:List Int}{x z:Int}(h:0≤x)(hp:∀s∈sets,0≤s)(hz:aB x z=true)(hc:qD sets z):aB (qS sets x) z=true:=sE hp hc _ x h hz
theorem mC{sets:List Int}{x:Int}(h:0≤x)(hp:∀s∈sets,0≤s):qD sets (qS sets x):=
 sB sets _ (oC h) hp (vC hp _ x h (by omega))
theorem TP{sets:List Int}{x y:Int}(h:0≤x)(hy:0≤y)(hp:∀s∈sets,0≤s)(h1:aB x y=true)(h2:qD sets y)(h3:aB y (qS sets x)=true):y=qS sets x:=
 jB hy (oC h) h3 (lJ h hp h1 h2)
theorem RQ{sets:List Int}{x y:Int}(h:0≤x)(hp:∀s∈sets,0≤s)(hy:∃n,y=jP sets n x)(hst:dB sets y=y):y=qS sets x:=by
 obtain⟨n,rfl⟩:=hy
 exact TP h (rW n x h) hp (zB n x h) (sB sets _ (rW n x h) hp hst) (sE hp (mC h hp) n x h (CD h))
theorem LL{sets:List Int}{x:Int}(hp:∀s∈sets,0≤s)(hx:x∈sets):jP sets sets.length x=qS sets x:=by
 have h0:=hp x hx
 have hc:1≤lA sets x:=by
  unfold lA
  exact List.length_pos_of_mem (List.mem_filter.2 ⟨hx,k6 x h0⟩)
 exact RQ h0 hp ⟨_,rfl⟩ (vC hp _ x h0 (by omega))
theorem KI(sets:List Int):∀n (x:Int),jP sets (n+1) x=dB sets (jP sets n x)
 |0,_=>rfl
 |n+1,x=>by
  show jP sets (n+1) (dB sets x)=_
  rw[KI sets n (dB sets x)];rfl
theorem J8{t:Int}:∀(sets:List Int) (x:Int),(∀s∈sets,aO t s=true)→aO t x=true→aO t (dB sets x)=true
 |[],_,_,h=>h
 |s::r,x,hs,h=>by
  refine J8 r _ (fun y hy=>hs y (List.mem_cons_of_mem _ hy)) ?_
  unfold jO
  split
  ·exact h
  ·exact LF h (hs s (by simp))
theorem GE{t:Int}{sets:List Int}(hs:∀s∈sets,aO t s=true):∀n (x:Int),aO t x=true→aO t (jP sets n x)=true
 |0,_,h=>h
 |n+1,x,h=>GE hs n _ (J8 sets x hs h)
theorem WL{sets:List Int}{k:Nat}{s:Int}(hs:Hid (sets[k]? =some s))(x:Int):dB (sets.take (k+1)) x=jO (dB (sets.take k) x) s:=by
 unfold dB;rw[gG hs,List.foldl_append];rfl
def g8(sets:List Int)(w:Nat):Int:=qS sets (bZ w)
def lG(t:Int)(a b:List Int):List Int:=if(b9 t a&&b9 t b)=true then cR (kC t (g8 (a++b))) else[]
section
variable {t:Int} {a b:List Int}
theorem oM(w:Nat){x:Int}:aB (bZ w) x=true↔aI x w=true:=mU w
theorem T7(w:Nat):aI (bZ w) w=true:=by unfold aI bZ;rw[Int.toNat_natCast];simp
theorem MX(h1:1≤t)(h3:t≤3){w:Nat}(hw:w<aP t):aO t (bZ w)=true:=by
 have:=iS h1 h3 hw
 exact cW h1 h3 this.1 this.2
theorem pP{sets:List Int}(w:Nat):aI (g8 sets w) w=true:=(oM w).1 (CD (cQ w))
theorem qC{sets:List Int}(hp:∀s∈sets,0≤s){w v:Nat}{s:Int}(hs:s∈sets)(h1:aI (g8 sets w) v=true)(h2:aI s v=true):aB s (g8 sets w)=true:=by
 rcases mC (cQ w) hp s hs with h|h
 ·have:=mV.1 h v h1
  rw[h2] at this;cases this
 ·exact h
theorem OM{sets:List Int}(h1:1≤t)(h3:t≤3)(hs:∀s∈sets,aO t s=true):sJ t (g8 sets):=by
 have hp:∀s∈sets,0≤s:=fun s h=>(aZ (hs s h)).2.2.1
 have hok:∀w,w<aP t→aO t (g8 sets w)=true:=fun w hw=>GE hs _ _ (MX h1 h3 hw)
 refine⟨hok,fun w _=>pP w,fun w v hw hv=> ?_⟩
 have hww:=aZ (hok w hw)
 have hvl:=fX h1 h3 hww.2.2.1 hww.2.2.2.1 hv
 have hvw:aB (g8 sets v) (g8 sets w)=true:=lJ (cQ v) hp ((oM v).2 hv) (mC (cQ w) hp)
 refine jB (oC (cQ v)) (oC (cQ w)) hvw ?_
 have key:aI (g8 sets v) w=true:=by
  cases hn:aI (g8 sets v) w
  ·exfalso
   let z:Int:=(g9 (fun i=>aI (g8 sets w) i&& !aI (g8 sets v) i) (aP t):Int)
   have hz:∀i,aI z i=(decide (i<aP t)&&(aI (g8 sets w) i&& !aI (g8 sets v) i)):=fun i=>by
    show(z.toNat).testBit i=_
    rw[show z.toNat=g9 (fun i=>aI (g8 sets w) i&& !aI (g8 sets v) i) (aP t) from Int.toNat_natCast _,oU]
   have hz0:0≤z:=Int.natCast_nonneg _
   have hcl:qD sets z:=by
    intro s hsm
    have hsr:=aZ (hs s hsm)
    by_cases hm:∃i,aI z i=true∧aI s i=true
    ·obtain⟨i,hzi,hsi⟩:=hm
     rw[hz,Bool.and_eq_true,Bool.and_eq_true] at hzi
     have hsw:=qC hp hsm hzi.2.1 hsi
     right
     refine(eA hsr.2.2.1).2 fun j hj=> ?_
     have hjw:=oR hsr.2.2.1 hsw hj
     rw[hz,decide_eq_true (fX h1 h3 hsr.2.2.1 hsr.2.2.2.1 hj),hjw]
     cases hjv:aI (g8 sets v) j
     ·rfl
     ·have:=oR hsr.2.2.1 (qC hp hsm hjv hj) hsi
      rw[this] at hzi
      exact absurd hzi.2.2 (by simp)
    ·left
     exact mV.2 fun i hi=>by
      cases hsi:aI s i
      ·rfl
      ·exact absurd ⟨i,hi,hsi⟩ hm
   have hzw:aI z w=true:=by rw[hz,decide_eq_true hw,pP,hn];rfl
   have:=oR (oC (cQ w)) (lJ (cQ w) hp ((oM w).2 hzw) hcl) hv
   rw[hz,pP v] at this
   simp at this
  ·rfl
 exact lJ (cQ w) hp ((oM w).2 key) (mC (cQ v) hp)
theorem vW(h:b9 t a=true):∀x∈a,aO t x=true:=eS (iI h)
theorem tJ(ha:b9 t a=true)(hb:b9 t b=true):∀x∈a++b,aO t x=true:=fun x hx=>by
 rcases List.mem_append.1 hx with h|h
 ·exact vW ha x h
 ·exact vW hb x h
theorem kH(h:b9 t a=true):1≤t∧t≤3:=cN (iI h)
theorem H8(h:aC t a=true)(h0:(0:Int)∈a):a=[0]:=by
 have hr:∀x∈a,0≤x∧x<256:=cV (eS h)
 have ht:=AQ h
 have key:∀x∈a,x=0:=fun x hx=>by
  rw[←ht] at h0
  have:=((kF hr 0).1 h0).2 x hx
  rcases this with e|e
  ·exact e
  ·rw[pY] at e;cases e
 rw[←ht]
 have hn:(cR a).Pairwise (·<·):=lL a
 rw[ht] at*
 match a,key,hn,h0 with
 |[x],key,_,_=>rw[key x (by simp)]
 |x::y::r,key,hn,_=>
  have h1:=key x (by simp)
  have h2:=key y (by simp)
  have:=(List.pairwise_cons.1 hn).1 y (by simp)
  omega
theorem wF(h:b9 t a=true){x:Int}(hx:x∈a):∃w,w<aP t∧aI x w=true:=by
 obtain⟨h1,h3⟩:=kH h
 have hr:=aZ (vW h x hx)
 by_cases hz:∃w,aI x w=true
 ·obtain⟨w,hw⟩:=hz
  exact⟨w,fX h1 h3 hr.2.2.1 hr.2.2.2.1 hw,hw⟩
 ·have e:x=0:=eB hr.2.2.1 (Int.le_refl 0) fun w=>by
   cases hw:aI x w
   ·unfold aI;simp
   ·exact absurd ⟨w,hw⟩ hz
  subst e
  have:=H8 (iI h) hx
  subst this
  obtain⟨y,hy,hyw,_⟩:=kE h (w:=0) (by have:=(o3 h1 h3).1;omega)
  rw[List.mem_singleton] at hy
  subst hy
  unfold aI at hyw
  simp at hyw
theorem BA{xs ys:List Int}(hx:∀x∈xs,0≤x∧x<256)(hy:∀x∈ys,0≤x∧x<256)(h:∀x,x∈xs↔x∈ys):cR xs=cR ys:=
 qV (lL _) (lL _) fun x=>by
  rw[kF hx,kF hy]
  constructor
  ·rintro⟨h1,h2⟩;exact⟨(h x).1 h1,fun y hy=>h2 y ((h y).2 hy)⟩
  ·rintro⟨h1,h2⟩;exact⟨(h x).2 h1,fun y hy=>h2 y ((h y).1 hy)⟩
theorem uL(ha:b9 t a=true)(hb:b9 t b=true):lG t a b=cR (kC t (g8 (a++b))):=by unfold lG;rw[ha,hb];rfl
theorem y9(ha:b9 t a=true)(hb:b9 t b=true):sJ t (g8 (a++b)):=OM (kH ha).1 (kH ha).2 (tJ ha hb)
theorem UL(ha:b9 t a=true)(hb:b9 t b=true):cR (a.map fun x=>jP (a++b) (a++b).length x)=lG t a b:=by
 obtain⟨h1,h3⟩:=kH ha
 have hs:=tJ ha hb
 have hp:∀s∈a++b,0≤s:=fun s h=>(aZ (hs s h)).2.2.1
 have hm:=y9 ha hb
 have same:∀x∈a,∀w,aI x w=true→jP (a++b) (a++b).length x=g8 (a++b) w:=fun x hx w hw=>by
  have hxm:x∈a++b:=List.mem_append_left _ hx
  have h0:=hp x hxm
  rw[LL hp hxm]
  refine jB (oC h0) (oC (cQ w)) ?_ ?_
  ·exact lJ h0 hp (qC hp hxm (pP w) hw) (mC (cQ w) hp)
  ·exact lJ (cQ w) hp (cC (cQ w) h0 ((oM w).2 hw) (CD h0)) (mC h0 hp)
 rw[uL ha hb]
 have hmem:∀y,y∈(a.map fun x=>jP (a++b) (a++b).length x)↔y∈kC t (g8 (a++b)):=fun y=>by
  rw[List.mem_map,i8]
  constructor
  ·rintro⟨x,hx,rfl⟩
   obtain⟨w,hwl,hw⟩:=wF ha hx
   exact⟨w,hwl,(same x hx w hw).symm⟩
  ·rintro⟨w,hwl,rfl⟩
   obtain⟨x,hx,hw,_⟩:=kE ha hwl
   exact⟨x,hx,same x hx w hw⟩
 have hr:=cV (sD hm)
 exact BA (fun x hx=>hr x ((hmem x).1 hx)) hr hmem
theorem rH(ha:b9 t a=true)(hb:b9 t b=true):b9 t (lG t a b)=true:=by
 rw[uL ha hb];exact BQ (kH ha).1 (kH ha).2 (y9 ha hb)
theorem sC(ha:b9 t a=true)(hb:b9 t b=true){x:Int}:x∈lG t a b↔∃w,w<aP t∧g8 (a++b) w=x:=by
 rw[uL ha hb,rS (y9 ha hb),i8]
theorem tV{c:List Int}(ha:aC t a=true)(hc:aC t c=true)(h:∀x∈a,∃y∈c,aB x y=true):eQ t a c=true:=by
 unfold eQ
 rw[ha,hc,Bool.true_and,Bool.true_and,List.all_eq_true]
 exact fun x hx=>bP.2 (h x hx)
theorem AC(ha:b9 t a=true)(hb:b9 t b=true):eQ t a (lG t a b)=true∧eQ t b (lG t a b)=true:=by
 have hs:=tJ ha hb
 have hp:∀s∈a++b,0≤s:=fun s h=>(aZ (hs s h)).2.2.1
 have hi:=iI (rH ha hb)
 refine⟨tV (iI ha) hi fun x hx=> ?_,tV (iI hb) hi fun x hx=> ?_⟩
 ·obtain⟨w,hwl,hw⟩:=wF ha hx
  exact⟨_,(sC ha hb).2 ⟨w,hwl,rfl⟩,qC hp (List.mem_append_left _ hx) (pP w) hw⟩
 ·obtain⟨w,hwl,hw⟩:=wF hb hx
  exact⟨_,(sC ha hb).2 ⟨w,hwl,rfl⟩,qC hp (List.mem_append_right _ hx) (pP w) hw⟩
theorem KG(t:Int)(a b:List Int):gU t a b=gU t b a:=by
 unfold gU
 rw[Bool.and_comm]
 split
 ·rename_i h
  rw[Bool.and_eq_true] at h
  refine BA (cV (jT h.2)) (cV (jT h.1)) fun x=> ?_
  rw[jC,jC]
  constructor
  ·rintro⟨u,hu,v,hv,e⟩;exact⟨v,hv,u,hu,by rw[←e];unfold aQ;rw[Nat.and_comm]⟩
  ·rintro⟨u,hu,v,hv,e⟩;exact⟨v,hv,u,hu,by rw[←e];unfold aQ;rw[Nat.and_comm]⟩
 ·rfl
theorem VU(ha:b9 t a=true)(hb:b9 t b=true):gU t (lG t a b) a=a:=by
 rw[KG]
 have:=zG (iI ha) (iI (rH ha hb))
 rw[(AC ha hb).1,decide_eq_true_eq] at this
 exact this
theorem S2{c:List Int}(ha:b9 t a=true)(hb:b9 t b=true)(hc:b9 t c=true)(h1:eQ t a c=true)(h2:eQ t b c=true):eQ t (lG t a b) c=true:=by
 obtain⟨ht1,ht3⟩:=kH ha
 have hs:=tJ ha hb
 have hp:∀s∈a++b,0≤s:=fun s h=>(aZ (hs s h)).2.2.1
 refine tV (iI (rH ha hb)) (iI hc) fun x hx=> ?_
 obtain⟨w,hwl,rfl⟩:=(sC ha hb).1 hx
 obtain⟨y,hy,hyw,_⟩:=kE hc hwl
 have hall:∀s∈a++b,∃z∈c,aB s z=true:=fun s hsm=>by
  unfold eQ at h1 h2
  rw[Bool.and_eq_true,List.all_eq_true] at h1 h2
  rcases List.mem_append.1 hsm with h|h
  ·exact bP.1 (h1.2 s h)
  ·exact bP.1 (h2.2 s h)
 refine⟨y,hy,lJ (cQ w) hp ((oM w).2 hyw) fun s hsm=> ?_⟩
 obtain⟨z,hz,hsz⟩:=hall s hsm
 by_cases hm:∃i,aI y i=true∧aI s i=true
 ·obtain⟨i,hyi,hsi⟩:=hm
  have hzi:=oR (hp s hsm) hsz hsi
  have hsr:=aZ (hs s hsm)
  obtain⟨q,_,_,hu⟩:=kE hc (fX ht1 ht3 hsr.2.2.1 hsr.2.2.2.1 hsi)
  rw[hu y hy hyi,←hu z hz hzi]
  exact .inr hsz
 ·left
  exact mV.2 fun i hi=>by
   cases hsi:aI s i
   ·rfl
   ·exact absurd ⟨i,hi,hsi⟩ hm
end
end Go.Proofs.YtfhjcacfchkdpaaGreatDoor
namespace Go.Proofs.YtfhjcacfchkdpaaGreatDoor
open Go.RowKit Go.Shelf
attribute [local go_sem] Oper.semAt_some
theorem GY(a b:Nat):(a &&& b)%2=(a%2) &&& (b%2):=by simpa using Nat.and_mod_two_pow (a:=a) (b:=b) (n:=1)
theorem VV:∀(p s u:Nat),p &&& s=p→u &&& s=u→u<p→u≤(p-1) &&& s:=by
 intro p
 induction p using Nat.strongRecOn with
 |_ p ih=>
  intro s u hp hu hlt
  have p2:p / 2 &&& s / 2=p / 2:=by rw[←Nat.and_div_two,hp]
  have u2:u / 2 &&& s / 2=u / 2:=by rw[←Nat.and_div_two,hu]
  have e2:((p-1) &&& s) / 2=(p-1) / 2 &&& s / 2:=Nat.and_div_two
  have em:=GY (p-1) s
  have um:=GY u s
  rw[hu] at um
  rcases Nat.mod_two_eq_zero_or_one p with h|h
  ·have h1:(p-1) / 2=p / 2-1:=by omega
   have h2:(p-1)%2=1:=by omega
   have:=ih (p / 2) (by omega) (s / 2) (u / 2) p2 u2 (by omega)
   rw[h1] at e2
   rw[h2] at em
   rw[←e2] at this
   rcases Nat.mod_two_eq_zero_or_one s with h3|h3<;>rcases Nat.mod_two_eq_zero_or_one u with h4|h4<;>rw[h3] at em um<;>rw[h4] at um<;>
    first|(have em:((p-1) &&& s)%2=0:=em;omega)|(have em:((p-1) &&& s)%2=1:=em;omega)|(exfalso;revert um;decide)
  ·have h1:(p-1) / 2=p / 2:=by omega
   rw[h1,p2] at e2
   omega
theorem AA{a b:Int}(ha:0≤a)(h:aB a b=true):a.toNat &&& b.toNat=a.toNat:=by
 have:=of_decide_eq_true h
 unfold aQ at this
 omega
theorem NL{s p u:Int}(hp:aB p s=true)(h0:0<p)(hu0:0≤u)(hu:aB u s=true)(hlt:u<p):u≤aQ (p-1) s:=by
 have:=VV p.toNat s.toNat u.toNat (AA (by omega) hp) (AA hu0 hu) (by omega)
 have e:(p-1).toNat=p.toNat-1:=by omega
 unfold aQ
 rw[e]
 omega
abbrev qK(s:Int):={x:Int // 0≤x∧x≤s∧aB x s=true}
def EG(s:Int)(xs:List (qK s)):Prop:=∀u:qK s,u∈xs
def xL(s p:Int)(xs:List (qK s)):Prop:=∀u:qK s,p<u.1→u∈xs
theorem IC(s:Int):xL s s []:=fun u h=>by have:=u.2;omega
theorem MD{s p:Int}{pre:List (qK s)}(hp:0≤p∧p≤s∧aB p s=true)(h0:0<p)(h:xL s p pre):xL s (aQ (p-1) s) (pre++[⟨p,hp⟩]):=by
 intro u hu
 rcases Int.lt_or_le p u.1 with h1|h1
 ·exact List.mem_append.2 (.inl (h u h1))
 ·by_cases e:u.1=p
  ·exact List.mem_append.2 (.inr (by rw[List.mem_singleton];exact Subtype.ext e))
  ·have:=NL hp.2.2 h0 u.2.1 u.2.2.2 (by omega)
   omega
theorem N1{s p:Int}{pre:List (qK s)}(hp:0≤p∧p≤s∧aB p s=true)(h0:¬0<p)(h:xL s p pre):EG s (pre++[⟨p,hp⟩]):=by
 intro u
 rcases Int.lt_or_le p u.1 with h1|h1
 ·exact List.mem_append.2 (.inl (h u h1))
 ·exact List.mem_append.2 (.inr (by rw[List.mem_singleton];exact Subtype.ext (by have:=u.2.1;show u.1=p;omega)))
theorem ER(n:Nat)(hn:1≤n)(l Bn:Nat)(s:Int)(hs0:0≤s)(hs:s<256)(J Jx:List (qK s)→World→Prop)
  (hY:∀pre x W,J pre W→pre.length<(s+1).toNat→YieldAt Fence.wide (n-1) Tryz.prog l #[.int .i64 x.1] W fun e W' =>
   (e= .returned (.bool true)∧J (pre++[x]) W'∧W'.heap[Bn]? =W.heap[Bn]?)∨(e= .returned (.bool false)∧Jx (pre++[x]) W'))
  (W:World) (hBn:W.cell? ⟨Bn,0,none⟩=some (.int .i64 s)) (h0:J [] W):
  CallsIn Fence.wide n Tryz.prog 188 #[.func (.yield l) #[] #[],.pointer (some ⟨Bn,0,none⟩)] W fun e W' =>(∃v,e= .returned v)∧
   ((∃xs,EG s xs∧J xs W')∨(∃pre,True∧Jx pre W')):=by
 have HY:Hid _:=zH hY
 clear hY
 refine callsIn_of_wp Tryz.func188 rfl trivial ?_ rfl
 simp only[Tryz.ntmps188,List.size_toArray,List.length_cons,List.length_nil,Nat.reduceAdd,Nat.reduceSub,Array.replicate_succ,Array.replicate_zero,List.push_toArray,List.append_toArray,List.nil_append,List.cons_append]
 gi_wp2
 have HF:Hid (xL s s []):=IC s
 have HW:Hid (aB s s=true):=dG s hs0
 gi_loopw [3] (fun v wr=>∃(pre:List (qK s)) (p:Int),v= .int .i64 p∧0≤p∧p≤s∧Hid (aB p s=true)∧Hid (xL s p pre)∧pre.length+p.toNat≤s.toNat∧wr.cell? ⟨Bn,0,none⟩=some (.int .i64 s)∧Hid (J pre wr))
  (fun v _=>(Go.RowKit.intOf v).toNat)
 case atStart=>exact⟨[],s,rfl,hs0,Int.le_refl _,HW,HF,by simp,hBn,h0⟩
 case round=>
  obtain⟨pre,p,rfl,hp0,hps,hpw,hfrom,hlen,hcs,hJ⟩:=hrel
  obtain⟨fn,tmps,assign,body,hy,hR⟩:=HY.out pre ⟨p,hp0,hps,hpw.out⟩ wr hJ.out (by omega)
  clear HF HW hBn h0
  by_cases hz:0<p
  ·have HN:=zH (MD ⟨hp0,hps,hpw.out⟩ hz hfrom.out)
   have HBI:=zH (mM (p-1) s (by omega) (by omega) hs0 (by omega))
   have hle:=lC (p-1) s (by omega)
   have hge:=aR (p-1) s
   have HWI:=zH (d4 (p-1) s)
   clear hfrom hJ
   gi_wp2
   refine hR.mono ?_
   rintro e W3 (⟨rfl,hJ3,hk3⟩|⟨rfl,hJx3⟩)
   ·have hc3:W3.cell? ⟨Bn,0,none⟩=some (.int .i64 s):=(World.cell?_of_block hk3).trans hcs
    have HJ3:=zH hJ3
    clear hJ3 hk3 hcs
    gi_wp2
    rw[HBI.out]
    go_roundw
    case rel=>exact⟨_,aQ (p-1) s,rfl,hge,by omega,HWI,HN,by rw[List.length_append];simp;omega,hc3,HJ3⟩
    case measure=>simp[Go.RowKit.intOf];omega
   ·have HJx3:=zH hJx3
    clear hJx3
    gi_wp2
    go_end0
    exact⟨⟨_,rfl⟩,.inr ⟨_,trivial,HJx3.out⟩⟩
  ·have HN:=zH (N1 ⟨hp0,hps,hpw.out⟩ hz hfrom.out)
   clear hfrom hJ
   gi_wp2
   refine hR.mono ?_
   rintro e W3 (⟨rfl,hJ3,hk3⟩|⟨rfl,hJx3⟩)
   ·have HJ3:=zH hJ3
    clear hJ3 hk3 hcs
    gi_wp2
    go_end0
    exact⟨⟨_,rfl⟩,.inl ⟨_,HN.out,HJ3.out⟩⟩
   ·have HJx3:=zH hJx3
    clear hJx3
    gi_wp2
    go_end0
    exact⟨⟨_,rfl⟩,.inr ⟨_,trivial,HJx3.out⟩⟩
end Go.Proofs.YtfhjcacfchkdpaaGreatDoor
namespace Go.Proofs.YtfhjcacfchkdpaaGreatDoor
open Go.RowKit Go.Shelf
attribute [local go_sem] Oper.semAt_some
def oT(w:World)(b o n:Nat)(s:Int)(f:Int→Bool):Prop:=
 b<w.heap.size∧∀u:Int,0≤u→aB u s=true→u<n∧w.cell? ⟨b,o+u.toNat,none⟩=some (.bool (f u))
theorem oT.below{w w' :World}{b o n:Nat}{s:Int}{f:Int→Bool}(h:oT w b o n s f)(hb:Below w.heap.size w w'):oT w' b o n s f:=
 ⟨Nat.lt_of_lt_of_le h.1 hb.size,fun u h0 hu=>⟨(h.2 u h0 hu).1,(hb.cell (p:=⟨b,o+u.toNat,none⟩) h.1).trans (h.2 u h0 hu).2⟩⟩
theorem oT.sub{w:World}{b o n:Nat}{s s2:Int}{f:Int→Bool}(h:oT w b o n s f)(hs0:0≤s2)(hs:aB s2 s=true):oT w b o n s2 f:=
 ⟨h.1,fun u h0 hu=>h.2 u h0 (cC h0 hs0 hu hs)⟩
theorem yG(n:Nat)(s:Int)(w:World):
  CallsIn Fence.wide n Tryz.prog 171 #[.int .i64 s] w fun e w' =>e= .returned (.func (.func 188) #[] #[.pointer (some ⟨w.heap.size,0,none⟩)])∧w' =w.alloc (.cells #[.int .i64 s] 3):=by
 refine callsIn_of_wp Tryz.func171 rfl trivial ?_ rfl
 simp only[Tryz.ntmps171,List.size_toArray,List.length_cons,List.length_nil,Nat.reduceAdd,Nat.reduceSub,Array.replicate_succ,Array.replicate_zero,List.push_toArray,List.append_toArray,List.nil_append,List.cons_append]
 gi_wp2
 go_ret
 exact⟨rfl,rfl⟩
theorem xV(n:Nat)(hn:1≤n)(Bn:Nat)(s:Int)(hs0:0≤s)(hs:s<256)(w:World)(hBn:Bn<w.heap.size)(hc:w.cell? ⟨Bn,0,none⟩=some (.int .i64 s)):
  SeqStopsK Fence.wide n Tryz.prog 188 #[.pointer (some ⟨Bn,0,none⟩)] (fun x:qK s=> #[Value.int .i64 x.1]) (fun W W' =>W'.heap[Bn]? =W.heap[Bn]?) (EG s) (fun _=>True) (s+1).toNat w:=fun l J Jx W hW _ _ hY h0=>
 ER n hn l Bn s hs0 hs J Jx hY W ((hW.cell (p:=⟨Bn,0,none⟩) hBn).trans hc) h0
theorem NV{Bn:Nat}{A B C:World}(h:B.heap[Bn]? =A.heap[Bn]?)(k:C.heap[Bn]? =B.heap[Bn]?):C.heap[Bn]? =A.heap[Bn]? :=k.trans h
theorem OQ{Bn:Nat}{w:World}(hn:Bn<w.heap.size)(W:World)(l:Nat)(o o' :Obj)(hl:w.heap.size≤l)(_:W.heap[l]? =some o)(_:o.isCells=false)(_:o.isWalk=false):(W.putObj l o').heap[Bn]? =W.heap[Bn]? :=
 World.putObj_heap_other (by omega)
def FA(s:Int)(f g:Int→Bool):Bool:=(List.range (s.toNat+1)).all fun u:Nat=> !aB (u:Int) s|| !f (u:Int)||g (u:Int)
theorem QD{s:Int}{f g:Int→Bool}(u:qK s)(h1:f u.1=true)(h2:g u.1=false):FA s f g=false:=by
 unfold FA
 rw[List.all_eq_false]
 refine⟨u.1.toNat,List.mem_range.2 (by have:=u.2;omega),?_⟩
 rw[Int.toNat_of_nonneg u.2.1,u.2.2.2,h1,h2];decide
theorem PR{s:Int}{f g:Int→Bool}(hs:0≤s){xs:List (qK s)}(hx:EG s xs)(h:∀y∈xs,(f y.1&& !g y.1)=false):FA s f g=true:=by
 unfold FA
 rw[List.all_eq_true]
 intro u hu
 rw[List.mem_range] at hu
 cases hw:aB (u:Int) s
 ·rfl
 ·have:=h ⟨(u:Int),by omega,gZ hw hs,hw⟩ (hx _)
  revert this
  cases f (u:Int)<;>cases g (u:Int)<;>simp
theorem R6{s:Int}{f g:Int→Bool}{pre:List (qK s)}{x:qK s}(h:∀y∈pre,(f y.1&& !g y.1)=false)(hx:(f x.1&& !g x.1)=false):∀y∈pre++[x],(f y.1&& !g y.1)=false:=by
 intro y hy
 rcases List.mem_append.1 hy with e|e
 ·exact h y e
 ·rw[List.mem_singleton] at e;subst e;exact hx
theorem pL{W W' :World}{row:Option Nat}{B:Nat}{t:TypeId}{v:Value}(h:Boxed W B t v)(hg:W.grownBy W' row)(hr:∀r,row=some r→∃o:Obj,W.heap[r]? =some o∧o.isCells=false):Boxed W' B t v:=
 h.kept hg (fun e=>by obtain⟨o,ho,hc⟩:=hr B e.symm;rw[show W.heap[B]? =_ from h] at ho;cases ho;cases hc)
theorem Boxed.below{W W' :World}{B:Nat}{t:TypeId}{v:Value}(h:Boxed W B t v)(hb:Below W.heap.size W W'):Boxed W' B t v:=(hb.block B h.lt).trans h
theorem zZ{W:World}{B:Nat}{t:TypeId}{v:Value}(h:Boxed W B t v){D:Nat}{o:Obj}(o' :Obj)(hD:W.heap[D]? =some o)(ho:o.isCells=false):Boxed (W.putObj D o') B t v:=
 pL h (grownBy_putObj' W D o') (fun r e=>by cases e;exact⟨o,hD,ho⟩)
theorem EY(s:Int)(b1 o1 n1 c1 b2 o2 n2 c2:Nat)(f g:Int→Bool)(w:World)(hs0:0≤s)(hs:s<256)(h1:oT w b1 o1 n1 s f)(h2:oT w b2 o2 n2 s g):
  Calls Tryz.prog 190 #[.int .i64 s,.slice (some ⟨b1,o1,none⟩) n1 c1,.slice (some ⟨b2,o2,none⟩) n2 c2] w fun e w' =>e= .returned (.bool (FA s f g))∧Below w.heap.size w w' :=by
 refine(callsIn_wide (n:=5)).1 ?_
 have HT1:=zH h1
 have HT2:=zH h2
 clear h1 h2
 refine callsIn_of_wp_marks Tryz.func190 rfl trivial ?_ rfl
 simp only[Tryz.ntmps190,List.size_toArray,List.length_cons,List.length_nil,Nat.reduceAdd,Nat.reduceSub,Array.replicate_succ,Array.replicate_zero,List.push_toArray,List.append_toArray,List.nil_append,List.cons_append]
 gi_wp2_with (refine⟨trivial,?_⟩;gi_at_call 171;refine(yG _ _ _).mono ?_;rintro e w' ⟨rfl,rfl⟩)
 have x0:=Boxed.new w 176 (.slice (some ⟨b1,o1,none⟩) n1 c1)
 have x1:=Boxed.new (w.alloc (.cells #[.slice (some ⟨b1,o1,none⟩) n1 c1] 176)) 176 (.slice (some ⟨b2,o2,none⟩) n2 c2)
 have x2:=Boxed.new ((w.alloc (.cells #[.slice (some ⟨b1,o1,none⟩) n1 c1] 176)).alloc (.cells #[.slice (some ⟨b2,o2,none⟩) n2 c2] 176)) 4 (.bool false)
 have x3:=Boxed.new (((w.alloc (.cells #[.slice (some ⟨b1,o1,none⟩) n1 c1] 176)).alloc (.cells #[.slice (some ⟨b2,o2,none⟩) n2 c2] 176)).alloc (.cells #[.bool false] 4)) 3 (.int .i64 s)
 simp only[World.size_alloc] at x1 x2 x3
 have hB0:Below w.heap.size w ((((w.alloc (.cells #[.slice (some ⟨b1,o1,none⟩) n1 c1] 176)).alloc (.cells #[.slice (some ⟨b2,o2,none⟩) n2 c2] 176)).alloc (.cells #[.bool false] 4)).alloc (.cells #[.int .i64 s] 3)):=((((Below.refl _ w).alloc (Nat.le_refl _) _).alloc (by simp) _).alloc (by simp;omega) _).alloc (by simp;omega) _
 refine wpIn_rangeFunc_ownF rfl (by decide) (gf:=188) (lb:= #[.pointer (some ⟨w.heap.size+1+1+1,0,none⟩)]) rfl trivial (enters_of Tryz.func188 (by kernel_rfl) rfl)
  (xV 4 (by decide) (w.heap.size+1+1+1) s hs0 hs _ (by simp) x3.cell) (fun h k=>NV h k) (OQ (by simp)) (Below.refl _ _) (fun _=>rfl)
  (fun pre W=>((∀y∈pre,(f y.1&& !g y.1)=false)∧Boxed W w.heap.size 176 (.slice (some ⟨b1,o1,none⟩) n1 c1)∧Boxed W (w.heap.size+1) 176 (.slice (some ⟨b2,o2,none⟩) n2 c2)∧Boxed W (w.heap.size+1+1) 4 (.bool false))∧Below w.heap.size w W)
  (fun c pre W=>(c= .ret∧FA s f g=false∧Boxed W (w.heap.size+1+1) 4 (.bool false))∧Below w.heap.size w W)
  (OwnFrom.and (Own.from (fun s A B row hs hg hr=>⟨hs.1,pL hs.2.1 hg hr,pL hs.2.2.1 hg hr,pL hs.2.2.2 hg hr⟩) _) (ownFrom_below (Nat.le_refl _) (by simp;omega)))
  (fun c=>OwnFrom.and (Own.from (fun s A B row hs hg hr=>⟨hs.1,hs.2.1,pL hs.2.2 hg hr⟩) _) (ownFrom_below (Nat.le_refl _) (by simp;omega)))
  ⟨⟨by simp,((x0.alloc _).alloc _).alloc _,(x1.alloc _).alloc _,x2.alloc _⟩,hB0⟩
  (fun x=>{tmps:= #[.int .i64 s,.slice (some ⟨b1,o1,none⟩) n1 c1,.slice (some ⟨b2,o2,none⟩) n2 c2,undef,.pointer (some ⟨w.heap.size,0,none⟩),.pointer (some ⟨w.heap.size+1,0,none⟩),.pointer (some ⟨w.heap.size+1+1,0,none⟩),.int .i64 x.1,.int .i64 s,.func (.func 188) #[] #[.pointer (some ⟨w.heap.size+1+1+1,0,none⟩)],.int .i64 x.1,undef,undef,undef,undef,undef,undef,undef,undef,undef,undef,undef],defers:=[]}) ?assign ?body ?done ?stop
 case assign=>
  intro l x W K hK
  gi_wp2
  exact hK
 case body=>
  rintro l pre x W ⟨⟨hp,hx1,hx2,hxr⟩,hB⟩ _
  have hc1:=hx1.cell
  have hc2:=hx2.cell
  have hcr:=hxr.cell
  have hfr:=hxr.frozen
  obtain⟨hl1,ht1⟩:=(HT1.out.below hB).2 x.1 x.2.1 x.2.2.2
  obtain⟨hl2,ht2⟩:=(HT2.out.below hB).2 x.1 x.2.1 x.2.2.2
  have hxa:=x.2.1
  have hxb:=x.2.2.1
  cases hf:f x.1<;>cases hg:g x.1<;>rw[hf] at ht1<;>rw[hg] at ht2
  all_goals
   have HP:=zH hp
   have HF:=zH hf
   have HG:=zH hg
   clear hp hf hg
   gi_wp2
   first
    |exact⟨KeepsOthers.refl _,rfl,⟨R6 HP.out (by rw[HF.out,HG.out];rfl),hx1,hx2,hxr⟩,hB⟩
    |exact⟨KeepsOthers.setCell _ _ _,⟨rfl,QD x HF.out HG.out,hxr.set _⟩,hB.setCell (p:=⟨w.heap.size+1+1,0,none⟩) (by simp;omega) _⟩
 case done=>
  rintro D ys W hD hfull ⟨⟨hne,_,_,hxr⟩,hB⟩ hK
  have hcr:=hxr.cell
  have hfr:=hxr.frozen
  have HE:=zH (PR hs0 hfull hne)
  clear hne hfull
  gi_wp2
  have hK' :=(KeepsOthers.setCell W ⟨w.heap.size+1+1,0,none⟩ (.bool true)).same D _ hK rfl
  refine⟨by simp,.inl ⟨_,_,rfl,run_takeDeferred hK',?_⟩⟩
  have hc5:=(zZ (hxr.set (.bool true)) (.deferred none) hK' rfl).cell
  refine⟨.bool true,?_,by rw[HE.out],(hB.setCell (p:=⟨w.heap.size+1+1,0,none⟩) (by simp;omega) _).trans (belowK_b (w:=w) (Nat.le_refl _) _ D _ _ (by simp at hD;omega) hK' rfl rfl)⟩
  simp[results,Tryz.f190,go_sem,hc5]
 case stop=>
  rintro D c pre W hD hpre ⟨⟨rfl,hin,hxr⟩,hB⟩ hK
  gi_wp2
  refine⟨by simp,.inl ⟨_,_,rfl,run_takeDeferred hK,?_⟩⟩
  have hc5:=(zZ hxr (.deferred none) hK rfl).cell
  refine⟨.bool false,?_,by rw[hin],hB.trans (belowK_b (w:=w) (Nat.le_refl _) W D _ _ (by simp at hD;omega) hK rfl rfl)⟩
  simp[results,Tryz.f190,go_sem,hc5]
end Go.Proofs.YtfhjcacfchkdpaaGreatDoor
namespace Go.Proofs.YtfhjcacfchkdpaaGreatDoor
open Go.RowKit
def fR(c k:Nat):Bool:=decide (c=49)||(!decide (c=48)&&decide (k / 2^(c-97)%2=1))
def bV(c:Nat):Nat→Nat
 |0=>0
 |k+1=>bV c k ||| (if fR c k=true then 2^k else 0)
def nY(c:Nat):Prop:=c=48∨c=49∨c=97∨c=98∨c=99
theorem qG(t:Int)(n:Nat)(hn:eP t=(n:Int))(hn8:n≤8)(c:Nat)(w:World)(hc:nY c):
  Calls Tryz.prog 160 #[.int .i64 t,.int .u8 c] w fun e w' =>e= .returned (.int .i64 (bV c n))∧w=w' :=by
 have HN:=zH hn
 clear hn
 go_enter Tryz.func160,Tryz.ntmps160
 go_wp2_with (go_at_call 58;refine(eE _ _).mono ?_;rintro e w' ⟨rfl,rfl⟩)
 rw[HN.out]
 go_loop [5,9] (fun v i=>∃k:Nat,k≤n∧i= .int .i64 k∧v= .int .i64 (bV c k)) (fun _ i=>n-(Go.RowKit.intOf i).toNat)
 case atStart=>exact⟨0,Nat.zero_le _,rfl,rfl⟩
 case round=>
  obtain⟨k,hk,rfl,rfl⟩:=hrel
  by_cases hlt:k<n
  ·have h8:k=0∨k=1∨k=2∨k=3∨k=4∨k=5∨k=6∨k=7:=by omega
   have hs:k+1≤n:=hlt
   have HS:=zH hs
   have HL:Hid ((k:Int)<(n:Int)):=by unfold Hid;omega
   clear hk hs hlt hn8
   rcases hc with rfl|rfl|rfl|rfl|rfl<;>rcases h8 with rfl|rfl|rfl|rfl|rfl|rfl|rfl|rfl
   all_goals
    have hlt:=HL.out
    go_wp2
    refine⟨⟨_,HS.out,rfl,by rfl⟩,?_⟩
    clear HS HL
    simp[Go.RowKit.intOf]
    omega
  ·obtain rfl:k=n:=by omega
   go_wp2
   go_ret
   exact⟨rfl,rfl⟩
end Go.Proofs.YtfhjcacfchkdpaaGreatDoor

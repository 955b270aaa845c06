/-
  What the proofs of this seat's statements share (MathE, MathP, MathF, MathG).
-/
import Derived.Test.YtfhjcacfchkdpaaGreatDoorU4
set_option maxRecDepth 100000
set_option maxHeartbeats 32000000
namespace Go.Proofs.YtfhjcacfchkdpaaGreatDoor
open Go.RowKit
inductive bD where
 |one:bD
 |zero:bD
 |thing:Nat→bD
 |no:bD→bD
 |ask:bD→bD
 |and_:bD→bD→bD
 |or_:bD→bD→bD
 |if_:bD→bD→bD
def fH(t:Int)(i:Nat):Int:=if i=0 then aQ 170 (aJ t) else if i=1 then aQ 204 (aJ t) else aQ 240 (aJ t)
def eI(t:Int):bD→Bool
 | .one=>true
 | .zero=>true
 | .thing i=>decide ((i:Int)<t)
 | .no x=>eI t x
 | .ask x=>eI t x
 | .and_ x y=>eI t x&&eI t y
 | .or_ x y=>eI t x&&eI t y
 | .if_ x y=>eI t x&&eI t y
def bE(t:Int):bD→List Int
 | .one=>[aJ t]
 | .zero=>[0]
 | .thing i=>[fH t i]
 | .no x=>iW t (bE t x)
 | .ask x=>dQ t (bE t x)
 | .and_ x y=>gU t (bE t x) (bE t y)
 | .or_ x y=>fB t (bE t x) (bE t y)
 | .if_ x y=>nP t (bE t x) (bE t y)
def gR:bD→Bool
 | .one=>true
 | .zero=>true
 | .thing _=>true
 | .no x=>gR x
 | .ask _=>false
 | .and_ x y=>gR x&&gR y
 | .or_ _ _=>false
 | .if_ x y=>gR x&&gR y
def aP(t:Int):Nat:=(eP t).toNat
def aI(s:Int)(w:Nat):Bool:=s.toNat.testBit w
def bZ(w:Nat):Int:=((2^w:Nat):Int)
def aN(t:Int):bD→Int→Bool
 | .one,_=>true
 | .zero,s=>decide (s=0)
 | .thing i,s=>aB s (fH t i)
 | .no x,s=>(List.range (aP t)).all fun w=> !aI s w|| !aN t x (bZ w)
 | .ask x,s=>aN t x s||(List.range (aP t)).all fun w=> !aI s w|| !aN t x (bZ w)
 | .and_ x y,s=>aN t x s&&aN t y s
 | .or_ x y,s=>aN t x s||aN t y s
 | .if_ x y,s=>(List.range (s.toNat+1)).all fun u:Nat=> !aB (u:Int) s|| !aN t x (u:Int)||aN t y (u:Int)
section
variable {t:Int} {a b:List Int}
theorem oQ(h1:1≤t)(h3:t≤3)(i:Nat):aO t (fH t i)=true:=by
 have hal:=bH t
 have key:∀c:Int,aO t (aQ c (aJ t))=true:=fun c=>cW h1 h3 (aR _ _) (uF _ _ hal.1)
 unfold fH
 split
 ·exact key _
 ·split<;>exact key _
theorem bA(h1:1≤t)(h3:t≤3):∀s:bD,aC t (bE t s)=true
 | .one=>fG (cW h1 h3 (bH t).1 (Int.le_refl _))
 | .zero=>qM h1 h3
 | .thing i=>fG (oQ h1 h3 i)
 | .no x=>n7 (bA h1 h3 x)
 | .ask x=>o8 (bA h1 h3 x)
 | .and_ x y=>sV (bA h1 h3 x) (bA h1 h3 y)
 | .or_ x y=>jU (bA h1 h3 x) (bA h1 h3 y)
 | .if_ x y=>o7 (bA h1 h3 x) (bA h1 h3 y)
theorem fX(h1:1≤t)(h3:t≤3){s:Int}(hs:0≤s)(hs2:s≤aJ t){w:Nat}(h:aI s w=true):w<aP t:=by
 have hb:∀n:Nat,s.toNat<2^n→w<n:=by
  intro n hn
  rcases Nat.lt_or_ge w n with hw|hw
  ·exact hw
  ·unfold aI at h
   rw[Nat.testBit_lt_two_pow (Nat.lt_of_lt_of_le hn (Nat.pow_le_pow_right (by omega) hw))] at h
   cases h
 have:t=1∨t=2∨t=3:=by omega
 rcases this with rfl|rfl|rfl
 ·exact hb 2 (by simp[aJ] at hs2;omega)
 ·exact hb 4 (by simp[aJ] at hs2;omega)
 ·exact hb 8 (by simp[aJ] at hs2;omega)
theorem iS(h1:1≤t)(h3:t≤3){w:Nat}(h:w<aP t):0≤bZ w∧bZ w≤aJ t:=by
 have hp:∀n:Nat,w<n→2^w≤2^(n-1):=fun n hn=>Nat.pow_le_pow_right (by omega) (by omega)
 have hz:bZ w=((2^w:Nat):Int):=rfl
 generalize 2^w=q at hp hz
 rw[hz]
 refine⟨by omega,?_⟩
 have:t=1∨t=2∨t=3:=by omega
 rcases this with rfl|rfl|rfl
 ·have:=hp 2 h;show(q:Int)≤3;omega
 ·have:=hp 4 h;show(q:Int)≤15;omega
 ·have:=hp 8 h;show(q:Int)≤255;omega
theorem cQ(w:Nat):0≤bZ w:=Int.natCast_nonneg _
theorem mU(w:Nat){x:Int}:aB (bZ w) x=true↔aI x w=true:=by
 rw[dA (cQ w)]
 unfold bZ aI
 rw[Int.toNat_natCast]
 constructor
 ·exact fun h=>h w (by rw[Nat.testBit_two_pow];simp)
 ·intro h i hi
  rw[Nat.testBit_two_pow,decide_eq_true_eq] at hi
  subst hi;exact h
theorem CV(w:Nat):aF (bZ w) a=aI (aV a) w:=by
 unfold aI
 rw[rU,Bool.eq_iff_iff,bP,List.any_eq_true]
 constructor
 ·rintro⟨x,hx,h⟩;exact⟨x,hx,(mU w).1 h⟩
 ·rintro⟨x,hx,h⟩;exact⟨x,hx,(mU w).2 h⟩
theorem KB(ha:aC t a=true){s:Int}(hs:0≤s)(hs2:s≤aJ t):aF s (iW t a)=(List.range (aP t)).all fun w=> !aI s w|| !aF (bZ w) a:=by
 obtain⟨h1,h3⟩:=cN ha
 have hu:=iQ ha
 rw[lB ha,kZ,Bool.eq_iff_iff,l6 h1 h3 hs hs2 hu.1 hu.2,List.all_eq_true]
 simp only[CV]
 constructor
 ·intro h w _
  have h2:s.toNat &&& (aV a).toNat=0:=by unfold aQ at h;omega
  have h4:=congrArg (fun x=>x.testBit w) h2
  simp only[Nat.testBit_and,Nat.zero_testBit] at h4
  unfold aI
  cases h5:s.toNat.testBit w
  ·rfl
  ·rw[h5] at h4;simp at h4;rw[h4];rfl
 ·intro h
  have h2:s.toNat &&& (aV a).toNat=0:=by
   apply Nat.eq_of_testBit_eq
   intro i
   rw[Nat.testBit_and,Nat.zero_testBit]
   cases h5:s.toNat.testBit i
   ·rfl
   ·have:=h i (List.mem_range.2 (fX h1 h3 hs hs2 h5))
    unfold aI at this
    rw[h5] at this
    simpa using this
  unfold aQ;omega
theorem dE(h1:1≤t)(h3:t≤3):∀(x:bD) (s:Int),0≤s→s≤aJ t→aN t x s=aF s (bE t x)
 | .one,s,h0,hs=>by
   show true=aF s [aJ t]
   rw[kZ,(iH h1 h3 h0).2 hs]
 | .zero,s,h0,_=>by
   show decide (s=0)=aF s [0]
   rw[kZ,Bool.eq_iff_iff,decide_eq_true_eq,jI h0]
 | .thing i,s,_,_=>by
   show _=aF s [fH t i]
   rw[kZ];rfl
 | .no x,s,h0,hs=>by
   show _=aF s (iW t (bE t x))
   rw[KB (bA h1 h3 x) h0 hs]
   unfold aN
   rw[Bool.eq_iff_iff,List.all_eq_true,List.all_eq_true]
   refine forall_congr' fun w=> ?_
   refine imp_congr_right fun hw=> ?_
   have:=iS h1 h3 (List.mem_range.1 hw)
   rw[dE h1 h3 x _ this.1 this.2]
 | .ask x,s,h0,hs=>by
   show _=aF s (dQ t (bE t x))
   have ha:=bA h1 h3 x
   rw[lE ha,gS ha (n7 ha) h0,KB ha h0 hs]
   unfold aN
   rw[dE h1 h3 x s h0 hs]
   congr 1
   rw[Bool.eq_iff_iff,List.all_eq_true,List.all_eq_true]
   refine forall_congr' fun w=> ?_
   refine imp_congr_right fun hw=> ?_
   have:=iS h1 h3 (List.mem_range.1 hw)
   rw[dE h1 h3 x _ this.1 this.2]
 | .and_ x y,s,h0,hs=>by
   show _=aF s (gU t (bE t x) (bE t y))
   rw[mZ (bA h1 h3 x) (bA h1 h3 y) h0]
   unfold aN
   rw[dE h1 h3 x s h0 hs,dE h1 h3 y s h0 hs]
 | .or_ x y,s,h0,hs=>by
   show _=aF s (fB t (bE t x) (bE t y))
   rw[gS (bA h1 h3 x) (bA h1 h3 y) h0]
   unfold aN
   rw[dE h1 h3 x s h0 hs,dE h1 h3 y s h0 hs]
 | .if_ x y,s,h0,hs=>by
   show _=aF s (nP t (bE t x) (bE t y))
   rw[nR (bA h1 h3 x) (bA h1 h3 y) h0 hs,Bool.eq_iff_iff,oF]
   unfold aN
   rw[List.all_eq_true]
   constructor
   ·intro h u hu hw hua
    have hle:=gZ hw h0
    have:=h u.toNat (List.mem_range.2 (by omega))
    rw[Int.toNat_of_nonneg hu,hw,dE h1 h3 x u hu (by omega),dE h1 h3 y u hu (by omega),hua] at this
    simpa using this
   ·intro h u hu
    rw[List.mem_range] at hu
    rw[dE h1 h3 x u (by omega) (by omega),dE h1 h3 y u (by omega) (by omega)]
    cases hw:aB (u:Int) s
    ·rfl
    ·cases hx:aF (u:Int) (bE t x)
     ·rfl
     ·rw[h u (by omega) hw hx];rfl
theorem RT{x y:Int}(hx:aO t x=true)(hy:aO t y=true):gU t [x] [y]=[aQ x y]:=by
 rw[qY (fG hx) (fG hy)]
 exact AQ (fG (t:=t) (xB hx))
theorem LF{x y:Int}(hx:aO t x=true)(hy:aO t y=true):aO t (fM x y)=true:=by
 have h1:=aZ hx
 have h2:=aZ hy
 refine cW h1.1 h1.2.1 (gB _ _) ?_
 refine(iH h1.1 h1.2.1 (gB _ _)).1 (rQ h1.2.2.1 h2.2.2.1 ?_ ?_)
 ·exact(iH h1.1 h1.2.1 h1.2.2.1).2 h1.2.2.2.1
 ·exact(iH h1.1 h1.2.1 h2.2.2.1).2 h2.2.2.2.1
theorem UX{x y:Int}(hx:aO t x=true)(hy:aO t y=true):nP t [x] [y]=[fM (aJ t-x) y]:=by
 obtain⟨h1,h3,hx0,hxa,hx2⟩:=aZ hx
 obtain⟨_,_,hy0,hya,hy2⟩:=aZ hy
 have hr:aO t (aJ t-x)=true:=cW h1 h3 (by omega) (by omega)
 refine nM (o7 (fG hx) (fG hy)) (fG (LF hr hy)) fun s h0 hs=> ?_
 rw[nR (fG hx) (fG hy) h0 hs,kZ]
 unfold dT
 simp only[List.all_cons,List.all_nil,Bool.and_true,kZ]
 rw[Bool.eq_iff_iff,dA (aR _ _),dA h0]
 obtain⟨n,_,hn⟩:=xF h1 h3
 have e:(aJ t-x).toNat=2^n-(x.toNat+1):=by rw[hn];omega
 have hxl:x.toNat<2^n:=by rw[hn] at hxa;omega
 have hsl:s.toNat<2^n:=by rw[hn] at hs;omega
 refine forall_congr' fun i=> ?_
 show((((s.toNat &&& x.toNat:Nat):Int)).toNat.testBit i=true→_)↔(_→((((aJ t-x).toNat ||| y.toNat:Nat):Int)).toNat.testBit i=true)
 rw[Int.toNat_natCast,Int.toNat_natCast,Nat.testBit_and,Nat.testBit_or,e,Nat.testBit_two_pow_sub_succ hxl]
 cases h5:s.toNat.testBit i
 ·simp
 ·have:i<n:=by
   rcases Nat.lt_or_ge i n with h|h
   ·exact h
   ·rw[Nat.testBit_lt_two_pow (Nat.lt_of_lt_of_le hsl (Nat.pow_le_pow_right (by omega) h))] at h5;cases h5
  cases x.toNat.testBit i<;>cases y.toNat.testBit i<;>simp[this]
theorem qA(h1:1≤t)(h3:t≤3):∀x:bD,gR x=true→∃g,aO t g=true∧bE t x=[g]
 | .one,_=>⟨_,cW h1 h3 (bH t).1 (Int.le_refl _),rfl⟩
 | .zero,_=>⟨0,cW h1 h3 (by omega) (bH t).1,rfl⟩
 | .thing i,_=>⟨_,oQ h1 h3 i,rfl⟩
 | .no x,_=>⟨_,CJ (bA h1 h3 x),lB (bA h1 h3 x)⟩
 | .ask _,h=>by cases h
 | .and_ x y,h=>by
   unfold gR at h
   rw[Bool.and_eq_true] at h
   obtain⟨p,hp,ep⟩:=qA h1 h3 x h.1
   obtain⟨q,hq,eq⟩:=qA h1 h3 y h.2
   exact⟨_,xB hp,by show gU t (bE t x) (bE t y)=_;rw[ep,eq,RT hp hq]⟩
 | .or_ _ _,h=>by cases h
 | .if_ x y,h=>by
   unfold gR at h
   rw[Bool.and_eq_true] at h
   obtain⟨p,hp,ep⟩:=qA h1 h3 x h.1
   obtain⟨q,hq,eq⟩:=qA h1 h3 y h.2
   have h5:=aZ hp
   have hr:aO t (aJ t-p)=true:=cW h1 h3 (by omega) (by omega)
   exact⟨_,LF hr hq,by show nP t (bE t x) (bE t y)=_;rw[ep,eq,UX hp hq]⟩
theorem UP(h1:1≤t)(h3:t≤3){x:bD}(h:gR x=true):bE t x=[aV (bE t x)]:=by
 obtain⟨g,hg,e⟩:=qA h1 h3 x h
 rw[e,vS (aZ hg).2.2.1]
def dW(t:Int)(x:bD):Nat→Nat
 |0=>0
 |k+1=>dW t x k+if aN t x (bZ k)=true then 2^k else 0
theorem GN(h1:1≤t)(h3:t≤3)(x:bD):∀k,k≤aP t→dW t x k=(aV (bE t x)).toNat%2^k
 |0,_=>by simp[dW,Nat.mod_one]
 |k+1,hk=>by
  have hw:=iS h1 h3 (show k<aP t by omega)
  unfold dW
  rw[GN h1 h3 x k (by omega),dE h1 h3 x _ hw.1 hw.2,CV,Nat.mod_pow_succ]
  unfold aI
  rw[Nat.testBit_eq_decide_div_mod_eq]
  rcases Nat.mod_two_eq_zero_or_one ((aV (bE t x)).toNat / 2^k) with h|h<;>rw[h]<;>simp
theorem vZ(h1:1≤t)(h3:t≤3)(x:bD):(dW t x (aP t):Int)=aV (bE t x):=by
 have hu:=iQ (bA h1 h3 x)
 rw[GN h1 h3 x _ (Nat.le_refl _)]
 have key:∀n:Nat,aV (bE t x)≤((2^n:Nat):Int)-1→(((aV (bE t x)).toNat%2^n:Nat):Int)=aV (bE t x):=by
  intro n hn
  rw[Nat.mod_eq_of_lt (by omega)];omega
 have:t=1∨t=2∨t=3:=by omega
 rcases this with rfl|rfl|rfl
 ·exact key 2 (by have:aJ 1=3:=rfl;omega)
 ·exact key 4 (by have:aJ 2=15:=rfl;omega)
 ·exact key 8 (by have:aJ 3=255:=rfl;omega)
theorem UO(ha:aC t a=true)(hb:aC t b=true)(h:eQ t a b=true):aB (aV a) (aV b)=true:=by
 refine nX (pZ ha) fun x hx=> ?_
 have:=aZ (eS ha x hx)
 have h2:=(kJ ha hb).1 h x this.2.2.1 this.2.2.2.1 (bP.2 ⟨x,hx,dG x this.2.2.1⟩)
 obtain⟨y,hy,hw⟩:=bP.1 h2
 exact cC this.2.2.1 (pZ hb y hy) hw (rV (pZ hb) hy)
theorem XF(h1:1≤t)(h3:t≤3)(x y:bD):aN t (.if_ x y) (aJ t)=eQ t (bE t x) (bE t y):=by
 have hx:=bA h1 h3 x
 have hy:=bA h1 h3 y
 have hal:=bH t
 rw[dE h1 h3 _ _ hal.1 (Int.le_refl _)]
 show aF (aJ t) (nP t (bE t x) (bE t y))=_
 rw[←CC hx hy,fJ (o7 hx hy) hal.1 (Int.le_refl _)]
end
end Go.Proofs.YtfhjcacfchkdpaaGreatDoor
namespace Go.Proofs.YtfhjcacfchkdpaaGreatDoor
open Go.RowKit
def zA(m:Nat)(x y:bD):Option bD:=if m=38 then some (.and_ x y) else if m=124 then some (.or_ x y) else if m=62 then some (.if_ x y) else none
def bM(t:Int):Nat→List Nat→Option (bD×List Nat)
 |0,_=>none
 |_+1,[]=>none
 |n+1,c::l=>
  if c=49 then some (.one,l) else if c=48 then some (.zero,l)
  else if 97≤c∧(c:Int)-97<t then some (.thing (c-97),l)
  else if c=33 then(bM t n l).map fun p=>(.no p.1,p.2)
  else if c=63 then(bM t n l).map fun p=>(.ask p.1,p.2)
  else if c=40 then
   match bM t n l with
   |some (x,m::l2)=>
    match bM t n l2 with
    |some (y,e::r)=>if e=41 then(zA m x y).map fun z=>(z,r) else none
    |_=>none
   |_=>none
  else none
theorem tX(t:Int):∀(n:Nat) (l:List Nat) (x:bD) (r:List Nat),bM t n l=some (x,r)→r.length<l.length
 |0,_,_,_,h=>by cases h
 |_+1,[],_,_,h=>by cases h
 |n+1,c::l,x,r,h=>by
  have ih:=tX t n
  unfold bM at h
  split at h
  ·cases h;simp
  split at h
  ·cases h;simp
  split at h
  ·cases h;simp
  split at h
  ·obtain⟨⟨y,q⟩,hy,e⟩:=Option.map_eq_some_iff.1 h
   cases e;have:=ih _ _ _ hy;simp;omega
  split at h
  ·obtain⟨⟨y,q⟩,hy,e⟩:=Option.map_eq_some_iff.1 h
   cases e;have:=ih _ _ _ hy;simp;omega
  split at h
  ·split at h
   ·rename_i x1 m l2 h1
    split at h
    ·rename_i y1 e r1 h2
     split at h
     ·obtain⟨z,hz,e2⟩:=Option.map_eq_some_iff.1 h
      cases e2
      have:=ih _ _ _ h1;have:=ih _ _ _ h2;simp at*;omega
     ·cases h
    ·cases h
   ·cases h
  ·cases h
def cA:bD→List Nat
 | .one=>[49]
 | .zero=>[48]
 | .thing i=>[97+i]
 | .no x=>33::cA x
 | .ask x=>63::cA x
 | .and_ x y=>40::(cA x++38::(cA y++[41]))
 | .or_ x y=>40::(cA x++124::(cA y++[41]))
 | .if_ x y=>40::(cA x++62::(cA y++[41]))
theorem I6(t:Int):∀(n:Nat) (l:List Nat) (x:bD) (r:List Nat),bM t n l=some (x,r)→eI t x=true∧l=cA x++r
 |0,_,_,_,h=>by cases h
 |_+1,[],_,_,h=>by cases h
 |n+1,c::l,x,r,h=>by
  have ih:=I6 t n
  unfold bM at h
  split at h
  ·cases h;rename_i hc;subst hc;exact⟨rfl,rfl⟩
  split at h
  ·cases h;rename_i hc;subst hc;exact⟨rfl,rfl⟩
  split at h
  ·cases h;rename_i hc;exact⟨by simp[eI];omega,by simp[cA];omega⟩
  split at h
  ·obtain⟨⟨y,q⟩,hy,e⟩:=Option.map_eq_some_iff.1 h
   cases e;have:=ih _ _ _ hy;rename_i hc;subst hc;exact⟨this.1,by rw[this.2];rfl⟩
  split at h
  ·obtain⟨⟨y,q⟩,hy,e⟩:=Option.map_eq_some_iff.1 h
   cases e;have:=ih _ _ _ hy;rename_i hc;subst hc;exact⟨this.1,by rw[this.2];rfl⟩
  split at h
  ·rename_i hc
   split at h
   ·rename_i x1 m l2 h1
    split at h
    ·rename_i y1 e r1 h2
     split at h
     ·rename_i he
      obtain⟨z,hz,e2⟩:=Option.map_eq_some_iff.1 h
      cases e2
      obtain⟨a1,b1⟩:=ih _ _ _ h1
      obtain⟨a2,b2⟩:=ih _ _ _ h2
      subst b1 b2 hc he
      unfold zA at hz
      split at hz
      ·cases hz;rename_i hm;subst hm;exact⟨by simp[eI,a1,a2],by simp[cA]⟩
      split at hz
      ·cases hz;rename_i hm;subst hm;exact⟨by simp[eI,a1,a2],by simp[cA]⟩
      split at hz
      ·cases hz;rename_i hm;subst hm;exact⟨by simp[eI,a1,a2],by simp[cA]⟩
      ·cases hz
     ·cases h
    ·cases h
   ·cases h
  ·cases h
theorem j6(t:Int):∀(x:bD) (n:Nat) (r:List Nat),eI t x=true→t≤26→(cA x).length≤n→bM t n (cA x++r)=some (x,r)
 | .one,n+1,r,_,_,_=>rfl
 | .zero,n+1,r,_,_,_=>rfl
 | .thing i,n+1,r,h,ht,_=>by
   simp only[eI,decide_eq_true_eq] at h
   show bM t (n+1) ((97+i)::r)=_
   unfold bM
   rw[if_neg (by omega),if_neg (by omega),if_pos (by omega)]
   congr 3;omega
 | .no x,n+1,r,h,ht,hl=>by
   simp only[cA,List.length_cons] at hl
   show bM t (n+1) (33::(cA x++r))=_
   unfold bM
   rw[if_neg (by omega),if_neg (by omega),if_neg (by omega),if_pos rfl,j6 t x n r h ht (by omega)];rfl
 | .ask x,n+1,r,h,ht,hl=>by
   simp only[cA,List.length_cons] at hl
   show bM t (n+1) (63::(cA x++r))=_
   unfold bM
   rw[if_neg (by omega),if_neg (by omega),if_neg (by omega),if_neg (by omega),if_pos rfl,j6 t x n r h ht (by omega)];rfl
 | .and_ x y,n+1,r,h,ht,hl=>by
   simp only[cA,List.length_cons,List.length_append,List.length_nil] at hl
   simp only[eI,Bool.and_eq_true] at h
   show bM t (n+1) (40::((cA x++38::(cA y++[41]))++r))=_
   have e:(cA x++38::(cA y++[41]))++r=cA x++(38::(cA y++(41::r))):=by simp
   rw[e]
   unfold bM
   rw[if_neg (by omega),if_neg (by omega),if_neg (by omega),if_neg (by omega),if_neg (by omega),if_pos rfl,j6 t x n _ h.1 ht (by omega)]
   simp only[]
   rw[j6 t y n _ h.2 ht (by omega)];rfl
 | .or_ x y,n+1,r,h,ht,hl=>by
   simp only[cA,List.length_cons,List.length_append,List.length_nil] at hl
   simp only[eI,Bool.and_eq_true] at h
   show bM t (n+1) (40::((cA x++124::(cA y++[41]))++r))=_
   have e:(cA x++124::(cA y++[41]))++r=cA x++(124::(cA y++(41::r))):=by simp
   rw[e]
   unfold bM
   rw[if_neg (by omega),if_neg (by omega),if_neg (by omega),if_neg (by omega),if_neg (by omega),if_pos rfl,j6 t x n _ h.1 ht (by omega)]
   simp only[]
   rw[j6 t y n _ h.2 ht (by omega)];rfl
 | .if_ x y,n+1,r,h,ht,hl=>by
   simp only[cA,List.length_cons,List.length_append,List.length_nil] at hl
   simp only[eI,Bool.and_eq_true] at h
   show bM t (n+1) (40::((cA x++62::(cA y++[41]))++r))=_
   have e:(cA x++62::(cA y++[41]))++r=cA x++(62::(cA y++(41::r))):=by simp
   rw[e]
   unfold bM
   rw[if_neg (by omega),if_neg (by omega),if_neg (by omega),if_neg (by omega),if_neg (by omega),if_pos rfl,j6 t x n _ h.1 ht (by omega)]
   simp only[]
   rw[j6 t y n _ h.2 ht (by omega)];rfl
 | .one,0,_,_,_,hl=>by simp[cA] at hl
 | .zero,0,_,_,_,hl=>by simp[cA] at hl
 | .thing _,0,_,_,_,hl=>by simp[cA] at hl
 | .no _,0,_,_,_,hl=>by simp[cA] at hl
 | .ask _,0,_,_,_,hl=>by simp[cA] at hl
 | .and_ _ _,0,_,_,_,hl=>by simp[cA] at hl
 | .or_ _ _,0,_,_,_,hl=>by simp[cA] at hl
 | .if_ _ _,0,_,_,_,hl=>by simp[cA] at hl
def kT(t:Int)(l:List Nat):Option bD:=
 if 1≤t∧t≤3∧l.length≤60 then(match bM t l.length l with|some (x,[])=>some x|_=>none) else none
theorem MW{t:Int}{l:List Nat}{x:bD}:kT t l=some x↔(1≤t∧t≤3∧l.length≤60∧eI t x=true∧l=cA x):=by
 unfold kT
 constructor
 ·intro h
  split at h
  ·rename_i hc
   split at h
   ·rename_i y hy
    cases h
    have:=I6 t _ _ _ _ hy
    simp at this
    exact⟨hc.1,hc.2.1,hc.2.2,this.1,this.2⟩
   ·cases h
  ·cases h
 ·rintro⟨h1,h3,hl,hs,rfl⟩
  rw[if_pos ⟨h1,h3,hl⟩]
  have:=j6 t x (cA x).length [] hs (by omega) (Nat.le_refl _)
  rw[List.append_nil] at this
  rw[this]
end Go.Proofs.YtfhjcacfchkdpaaGreatDoor
namespace Go.Proofs.YtfhjcacfchkdpaaGreatDoor
open Go.RowKit
def setL(xs:List Int):List Int:=((List.range 256).map (fun n:Nat=>(n:Int))).filter (fun s=>decide (s∈xs))
def tC(t:Int)(a b:List Int):List Int:=a.foldl (fun out x=>setL (eU out (b.map fun y=>fM (aJ t-x) y))) [aJ t]
def lN(t:Int):bD→List Int
 | .one=>[aJ t]
 | .zero=>[0]
 | .thing i=>[fH t i]
 | .no x=>[aJ t-aV (lN t x)]
 | .ask x=>setL (lN t x++[aJ t-aV (lN t x)])
 | .and_ x y=>setL (eU (lN t x) (lN t y))
 | .or_ x y=>setL (lN t x++lN t y)
 | .if_ x y=>tC t (lN t x) (lN t y)
section
variable {t:Int} {a b:List Int}
theorem ES{xs:List Int}(hr:∀x∈xs,0≤x∧x<256)(s:Int):s∈setL xs↔s∈xs:=by
 unfold setL
 rw[List.mem_filter,List.mem_map,decide_eq_true_eq]
 constructor
 ·exact fun h=>h.2
 ·intro h
  have:=hr s h
  exact⟨⟨s.toNat,by rw[List.mem_range];omega,by omega⟩,h⟩
theorem QW(xs:List Int):∀s∈setL xs,s∈xs:=fun s hs=>by
 unfold setL at hs
 rw[List.mem_filter,decide_eq_true_eq] at hs
 exact hs.2
theorem YG(xs:List Int):(setL xs).Pairwise (·<·):=by
 unfold setL
 refine List.Pairwise.sublist List.filter_sublist ?_
 rw[List.pairwise_map]
 exact List.pairwise_lt_range.imp (fun h=>by omega)
theorem SO{xs ys:List Int}(h:∀x,x∈xs↔x∈ys)(s:Int):aF s xs=aF s ys:=by
 rw[Bool.eq_iff_iff,bP,bP]
 exact exists_congr fun x=>and_congr_left fun _=>h x
theorem uO{xs:List Int}(hr:∀x∈xs,0≤x∧x<256)(s:Int):aF s (setL xs)=aF s xs:=SO (ES hr) s
def dS(t:Int)(xs:List Int):Prop:=xs≠[]∧∀x∈xs,aO t x=true
theorem dS.range{xs:List Int}(h:dS t xs):∀x∈xs,0≤x∧x<256:=cV h.2
theorem dS.setL{xs:List Int}(h:dS t xs):dS t (setL xs):=by
 refine⟨fun e=> ?_,fun x hx=>h.2 x (QW xs x hx)⟩
 obtain⟨x,hx⟩:=List.exists_mem_of_ne_nil xs h.1
 have:=(ES h.range x).2 hx
 rw[e] at this;cases this
theorem dS.both{xs ys:List Int}(hx:dS t xs)(hy:ys≠[]):dS t (eU xs ys):=by
 refine⟨fun e=> ?_,fun s hs=> ?_⟩
 ·obtain⟨x,hx⟩:=List.exists_mem_of_ne_nil xs hx.1
  obtain⟨y,hy⟩:=List.exists_mem_of_ne_nil ys hy
  have:=jC.2 ⟨x,hx,y,hy,rfl⟩
  rw[e] at this;cases this
 ·obtain⟨x,hxm,y,_,rfl⟩:=jC.1 hs
  exact xB (hx.2 x hxm)
theorem dS.append{xs ys:List Int}(hx:dS t xs)(hy:∀y∈ys,aO t y=true):dS t (xs++ys):=
 ⟨fun e=>hx.1 (List.append_eq_nil_iff.1 e).1,fun s hs=>by
  rcases List.mem_append.1 hs with h|h
  ·exact hx.2 s h
  ·exact hy s h⟩
theorem dS.one{x:Int}(h:aO t x=true):dS t [x]:=⟨by simp,fun y hy=>by rw[List.mem_singleton] at hy;rw[hy];exact h⟩
theorem dS.things{xs:List Int}(h:dS t xs):1≤t∧t≤3:=by
 obtain⟨x,hx⟩:=List.exists_mem_of_ne_nil xs h.1
 have:=aZ (h.2 x hx);omega
theorem dS.union{xs:List Int}(h:dS t xs):0≤aV xs∧aV xs≤aJ t:=by
 have h1:=l9 h.1 h.2
 rw[←qP h.range];exact iQ h1
theorem dS.rest{xs:List Int}(h:dS t xs):aO t (aJ t-aV xs)=true:=by
 have:=h.union;have h2:=h.things
 exact cW h2.1 h2.2 (by omega) (by omega)
theorem x6(h1:1≤t)(h3:t≤3){s x y:Int}(hs:0≤s)(hs2:s≤aJ t)(hx:0≤x)(hx2:x≤aJ t):aB s (fM (aJ t-x) y)=aB (aQ s x) y:=by
 rw[Bool.eq_iff_iff,dA (aR _ _),dA hs]
 obtain⟨n,_,hn⟩:=xF h1 h3
 have e:(aJ t-x).toNat=2^n-(x.toNat+1):=by rw[hn];omega
 have hxl:x.toNat<2^n:=by rw[hn] at hx2;omega
 have hsl:s.toNat<2^n:=by rw[hn] at hs2;omega
 refine forall_congr' fun i=> ?_
 show(_→((((aJ t-x).toNat ||| y.toNat:Nat):Int)).toNat.testBit i=true)↔((((s.toNat &&& x.toNat:Nat):Int)).toNat.testBit i=true→_)
 rw[Int.toNat_natCast,Int.toNat_natCast,Nat.testBit_and,Nat.testBit_or,e,Nat.testBit_two_pow_sub_succ hxl]
 cases h5:s.toNat.testBit i
 ·simp
 ·have:i<n:=by
   rcases Nat.lt_or_ge i n with h|h
   ·exact h
   ·rw[Nat.testBit_lt_two_pow (Nat.lt_of_lt_of_le hsl (Nat.pow_le_pow_right (by omega) h))] at h5;cases h5
  cases x.toNat.testBit i<;>cases y.toNat.testBit i<;>simp[this]
theorem H7(hb:dS t b){out:List Int}(ho:dS t out){x:Int}(hx:aO t x=true):
  dS t (setL (eU out (b.map fun y=>fM (aJ t-x) y)))∧
  ∀s,0≤s→s≤aJ t→aF s (setL (eU out (b.map fun y=>fM (aJ t-x) y)))=(aF s out&&aF (aQ s x) b):=by
 obtain⟨h1,h3,hx0,hxa,_⟩:=aZ hx
 have hg:dS t (eU out (b.map fun y=>fM (aJ t-x) y)):=ho.both (by intro e;exact hb.1 (List.map_eq_nil_iff.1 e))
 refine⟨hg.setL,fun s hs hs2=> ?_⟩
 rw[uO hg.range,wN s hs]
 congr 1
 rw[Bool.eq_iff_iff,bP,bP]
 constructor
 ·rintro⟨z,hz,hw⟩
  obtain⟨y,hy,rfl⟩:=List.mem_map.1 hz
  exact⟨y,hy,by rw[←x6 h1 h3 hs hs2 hx0 hxa];exact hw⟩
 ·rintro⟨y,hy,hw⟩
  exact⟨_,List.mem_map.2 ⟨y,hy,rfl⟩,by rw[x6 h1 h3 hs hs2 hx0 hxa];exact hw⟩
theorem r9(hb:dS t b):∀(a:List Int),(∀x∈a,aO t x=true)→∀out,dS t out→
  dS t (a.foldl (fun out x=>setL (eU out (b.map fun y=>fM (aJ t-x) y))) out)∧
  ∀s,0≤s→s≤aJ t→aF s (a.foldl (fun out x=>setL (eU out (b.map fun y=>fM (aJ t-x) y))) out)=(aF s out&&dT a b s)
 |[],_,out,ho=>⟨ho,fun s _ _=>by simp[dT]⟩
 |x::r,ha,out,ho=>by
  have h1:=H7 hb ho (ha x (by simp))
  have h2:=r9 hb r (fun y hy=>ha y (by simp[hy])) _ h1.1
  refine⟨h2.1,fun s hs hs2=> ?_⟩
  rw[List.foldl_cons,h2.2 s hs hs2,h1.2 s hs hs2]
  unfold dT
  rw[List.all_cons,Bool.and_assoc]
theorem IY(ha:dS t a)(hb:dS t b):dS t (tC t a b):=by
 obtain⟨h1,h3⟩:=ha.things
 exact(r9 hb a ha.2 _ (dS.one (cW h1 h3 (bH t).1 (Int.le_refl _)))).1
theorem LB(ha:dS t a)(hb:dS t b){s:Int}(hs:0≤s)(hs2:s≤aJ t):aF s (tC t a b)=dT a b s:=by
 obtain⟨h1,h3⟩:=ha.things
 unfold tC
 rw[(r9 hb a ha.2 _ (dS.one (cW h1 h3 (bH t).1 (Int.le_refl _)))).2 s hs hs2,kZ,(iH h1 h3 hs).2 hs2,Bool.true_and]
theorem O7{a' b' :List Int}(ha:∀u,0≤u→u≤aJ t→aF u a=aF u a')(hb:∀u,0≤u→u≤aJ t→aF u b=aF u b'){s:Int}(hs:0≤s)(hs2:s≤aJ t):dT a b s=dT a' b' s:=by
 rw[Bool.eq_iff_iff,oF,oF]
 refine forall_congr' fun u=>imp_congr_right fun hu=>imp_congr_right fun hw=> ?_
 have:=gZ hw hs
 rw[ha u hu (by omega),hb u hu (by omega)]
theorem zN(ha:dS t a)(hb:aC t b=true)(h:∀u,0≤u→u≤aJ t→aF u a=aF u b):aV a=aV b:=by
 have e:cR a=b:=nM (l9 ha.1 ha.2) hb fun s hs hs2=>by rw[oD ha.range hs];exact h s hs hs2
 rw[←qP ha.range,e]
theorem iR(h1:1≤t)(h3:t≤3):∀x:bD,dS t (lN t x)∧∀s,0≤s→s≤aJ t→aF s (lN t x)=aF s (bE t x)
 | .one=>⟨dS.one (cW h1 h3 (bH t).1 (Int.le_refl _)),fun _ _ _=>rfl⟩
 | .zero=>⟨dS.one (cW h1 h3 (by omega) (bH t).1),fun _ _ _=>rfl⟩
 | .thing i=>⟨dS.one (oQ h1 h3 i),fun _ _ _=>rfl⟩
 | .no x=>by
   obtain⟨hg,ha⟩:=iR h1 h3 x
   refine⟨dS.one hg.rest,fun s _ _=> ?_⟩
   show aF s [aJ t-aV (lN t x)]=aF s (iW t (bE t x))
   rw[lB (bA h1 h3 x),zN hg (bA h1 h3 x) ha]
 | .ask x=>by
   obtain⟨hg,ha⟩:=iR h1 h3 x
   have hg2:dS t (lN t x++[aJ t-aV (lN t x)]):=hg.append (dS.one hg.rest).2
   refine⟨hg2.setL,fun s hs hs2=> ?_⟩
   show aF s (setL _)=aF s (dQ t (bE t x))
   rw[uO hg2.range,lE (bA h1 h3 x),gS (bA h1 h3 x) (n7 (bA h1 h3 x)) hs,←ha s hs hs2,lB (bA h1 h3 x),zN hg (bA h1 h3 x) ha]
   unfold aF;rw[List.any_append]
 | .and_ x y=>by
   obtain⟨hg,ha⟩:=iR h1 h3 x
   obtain⟨hg2,ha2⟩:=iR h1 h3 y
   have hb:=hg.both hg2.1
   refine⟨hb.setL,fun s hs hs2=> ?_⟩
   show aF s (setL _)=aF s (gU t (bE t x) (bE t y))
   rw[uO hb.range,wN s hs,mZ (bA h1 h3 x) (bA h1 h3 y) hs,ha s hs hs2,ha2 s hs hs2]
 | .or_ x y=>by
   obtain⟨hg,ha⟩:=iR h1 h3 x
   obtain⟨hg2,ha2⟩:=iR h1 h3 y
   have hb:=hg.append hg2.2
   refine⟨hb.setL,fun s hs hs2=> ?_⟩
   show aF s (setL _)=aF s (fB t (bE t x) (bE t y))
   rw[uO hb.range,gS (bA h1 h3 x) (bA h1 h3 y) hs,←ha s hs hs2,←ha2 s hs hs2]
   unfold aF;rw[List.any_append]
 | .if_ x y=>by
   obtain⟨hg,ha⟩:=iR h1 h3 x
   obtain⟨hg2,ha2⟩:=iR h1 h3 y
   refine⟨IY hg hg2,fun s hs hs2=> ?_⟩
   show aF s (tC t _ _)=aF s (nP t (bE t x) (bE t y))
   rw[LB hg hg2 hs hs2,nR (bA h1 h3 x) (bA h1 h3 y) hs hs2,O7 ha ha2 hs hs2]
theorem Q6(h1:1≤t)(h3:t≤3)(x:bD):cR (lN t x)=bE t x:=by
 obtain⟨hg,ha⟩:=iR h1 h3 x
 exact nM (l9 hg.1 hg.2) (bA h1 h3 x) fun s hs hs2=>by rw[oD hg.range hs];exact ha s hs hs2
theorem YI(h1:1≤t)(h3:t≤3)(x:bD)(hl:(lN t x).length≤70):uB t (lN t x)=bE t x:=by
 obtain⟨hg,_⟩:=iR h1 h3 x
 rw[TR,Q6 h1 h3]
 unfold dR
 simp only[Bool.and_eq_true,decide_eq_true_eq,List.all_eq_true]
 exact⟨⟨List.length_pos_iff.2 hg.1,hl⟩,hg.2⟩
theorem WF(h1:1≤t)(h3:t≤3)(x y:bD):((lN t x).all fun r=>aF r (lN t y))=eQ t (bE t x) (bE t y):=by
 obtain⟨hg,ha⟩:=iR h1 h3 x
 obtain⟨hg2,ha2⟩:=iR h1 h3 y
 rw[Bool.eq_iff_iff,List.all_eq_true,kJ (bA h1 h3 x) (bA h1 h3 y)]
 constructor
 ·intro h s hs hs2 hsa
  rw[←ha s hs hs2] at hsa
  rw[←ha2 s hs hs2]
  obtain⟨r,hr,hw⟩:=bP.1 hsa
  exact rD hs (hg.range r hr).1 hw (h r hr)
 ·intro h r hr
  have:=aZ (hg.2 r hr)
  rw[ha2 r this.2.2.1 this.2.2.2.1]
  refine h r this.2.2.1 this.2.2.2.1 ?_
  rw[←ha r this.2.2.1 this.2.2.2.1]
  exact bP.2 ⟨r,hr,dG r this.2.2.1⟩
end
end Go.Proofs.YtfhjcacfchkdpaaGreatDoor
namespace Go.Proofs.YtfhjcacfchkdpaaGreatDoor
open Go.RowKit
def g9(p:Nat→Bool):Nat→Nat
 |0=>0
 |k+1=>g9 p k+if p k=true then 2^k else 0
theorem r4(p:Nat→Bool):∀k,g9 p k<2^k
 |0=>by simp[g9]
 |k+1=>by
  have:=r4 p k
  unfold g9
  rw[Nat.pow_succ]
  split<;>omega
theorem oU(p:Nat→Bool):∀k v,(g9 p k).testBit v=(decide (v<k)&&p v)
 |0,v=>by simp[g9]
 |k+1,v=>by
  have hlt:=r4 p k
  have ih:=oU p k v
  unfold g9
  by_cases hp:p k=true
  ·rw[if_pos hp,Nat.add_comm]
   rcases Nat.lt_trichotomy v k with h|h|h
   ·rw[Nat.testBit_two_pow_add_gt h,ih,decide_eq_true h,decide_eq_true (show v<k+1 by omega)]
   ·subst h
    rw[Nat.testBit_two_pow_add_eq,Nat.testBit_lt_two_pow hlt,hp];simp
   ·rw[Nat.testBit_lt_two_pow (by
     have:2^(k+1)≤2^v:=Nat.pow_le_pow_right (by omega) (by omega)
     rw[Nat.pow_succ] at this;omega),decide_eq_false (show¬v<k+1 by omega)];rfl
  ·rw[if_neg hp,Nat.add_zero,ih]
   by_cases h:v=k
   ·subst h
    rw[decide_eq_false (show¬v<v by omega)]
    cases hv:p v
    ·simp
    ·exact absurd hv hp
   ·by_cases h2:v<k
    ·rw[decide_eq_true h2,decide_eq_true (show v<k+1 by omega)]
    ·rw[decide_eq_false h2,decide_eq_false (show¬v<k+1 by omega)]
def b9(t:Int)(xs:List Int):Bool:=aC t xs&&(List.range (aP t)).all fun w=>decide ((xs.filter fun x=>aI x w).length=1)
def gH(sets:List Int)(v w:Nat):Bool:=sets.all fun x=>aI x v==aI x w
def lU(t:Int)(sets:List Int)(w:Nat):Int:=(g9 (fun v=>gH sets v w) (aP t):Int)
def jM(t:Int)(sets:List Int):List Int:=(List.range (aP t)).map (lU t sets)
def SG(t:Int)(sets:List Int):List Int:=if(sets.all (aO t)&&decide (1≤t∧t≤3)&&decide (sets.length≤70))=true then cR (jM t sets) else[]
section
variable {t:Int} {sets:List Int}
theorem o3(h1:1≤t)(h3:t≤3):2≤aP t∧aJ t=((2^aP t:Nat):Int)-1:=by
 have:t=1∨t=2∨t=3:=by omega
 rcases this with rfl|rfl|rfl
 ·exact⟨by decide,rfl⟩
 ·exact⟨by decide,rfl⟩
 ·exact⟨by decide,rfl⟩
theorem mY(w v:Nat):aI (lU t sets w) v=(decide (v<aP t)&&gH sets v w):=by
 unfold aI lU;rw[Int.toNat_natCast,oU]
theorem I8(h1:1≤t)(h3:t≤3)(w:Nat):aO t (lU t sets w)=true:=by
 have:=r4 (fun v=>gH sets v w) (aP t)
 have h2:=(o3 h1 h3).2
 have e:lU t sets w=((g9 (fun v=>gH sets v w) (aP t):Nat):Int):=rfl
 generalize g9 (fun v=>gH sets v w) (aP t)=q at this e
 generalize 2^aP t=m at this h2
 exact cW h1 h3 (by omega) (by omega)
theorem N9(w:Nat):gH sets w w=true:=by unfold gH;simp
theorem CR{v w:Nat}(h:gH sets v w=true):gH sets w v=true:=by
 unfold gH at*
 rw[List.all_eq_true] at*
 intro x hx
 have:=h x hx
 simp only[beq_iff_eq] at*
 exact this.symm
theorem tR{u v w:Nat}(h:gH sets u v=true)(h2:gH sets v w=true):gH sets u w=true:=by
 unfold gH at*
 rw[List.all_eq_true] at*
 intro x hx
 have a:=h x hx
 have b:=h2 x hx
 simp only[beq_iff_eq] at*
 exact a.trans b
theorem eB{x y:Int}(hx:0≤x)(hy:0≤y)(h:∀w,aI x w=aI y w):x=y:=by
 have:x.toNat=y.toNat:=Nat.eq_of_testBit_eq h
 omega
theorem eA{x y:Int}(hx:0≤x):aB x y=true↔∀w,aI x w=true→aI y w=true:=dA hx
theorem vH{w:Nat}(hw:w<aP t):aI (lU t sets w) w=true:=by rw[mY,decide_eq_true hw,N9];rfl
theorem CO{v w:Nat}(h:gH sets v w=true):lU t sets v=lU t sets w:=by
 refine eB (Int.natCast_nonneg _) (Int.natCast_nonneg _) fun u=> ?_
 rw[mY,mY]
 congr 1
 rw[Bool.eq_iff_iff]
 exact⟨fun h2=>tR h2 h,fun h2=>tR h2 (CR h)⟩
theorem j1{x:Int}:x∈jM t sets↔∃w,w<aP t∧lU t sets w=x:=by
 unfold jM;rw[List.mem_map];simp[List.mem_range]
theorem AE(h1:1≤t)(h3:t≤3):∀x∈jM t sets,aO t x=true:=by
 intro x hx
 obtain⟨w,_,rfl⟩:=j1.1 hx
 exact I8 h1 h3 w
theorem I1{x y:Int}(hx:x∈jM t sets)(hy:y∈jM t sets)(h:aB x y=true):x=y:=by
 obtain⟨v,hv,rfl⟩:=j1.1 hx
 obtain⟨w,_,rfl⟩:=j1.1 hy
 have:=(eA (Int.natCast_nonneg _)).1 h v (vH hv)
 rw[mY,Bool.and_eq_true] at this
 exact CO this.2
theorem AJ(h1:1≤t)(h3:t≤3)(x:Int):x∈cR (jM t sets)↔x∈jM t sets:=by
 rw[kF (cV (AE h1 h3))]
 refine⟨fun h=>h.1,fun h=>⟨h,fun y hy=> ?_⟩⟩
 cases hw:aB x y
 ·exact .inr rfl
 ·exact .inl (I1 h hy hw).symm
theorem t7(h1:1≤t)(h3:t≤3):dS t (jM t sets):=
 ⟨fun e=>by
  have:=j1 (t:=t) (sets:=sets) (x:=lU t sets 0)
  rw[e] at this
  exact absurd (this.2 ⟨0,by have:=(o3 h1 h3).1;omega,rfl⟩) (by simp),AE h1 h3⟩
theorem C1{xs:List Int}{w:Nat}(hd:xs.Nodup){x:Int}(hx:x∈xs)(hw:aI x w=true)(hu:∀y∈xs,aI y w=true→y=x):(xs.filter fun x=>aI x w).length=1:=by
 have e:xs.filter (fun x=>aI x w)=[x]:=by
  have hm:∀y,y∈xs.filter (fun x=>aI x w)↔y=x:=by
   intro y
   rw[List.mem_filter]
   exact⟨fun h=>hu y h.1 h.2,fun h=>by rw[h];exact⟨hx,hw⟩⟩
  have hd2:(xs.filter fun x=>aI x w).Nodup:=hd.sublist List.filter_sublist
  match h:xs.filter (fun x=>aI x w),hm,hd2 with
  |[],hm,_=>have:=(hm x).2 rfl;simp at this
  |[y],hm,_=>rw[(hm y).1 (by simp)]
  |y::z::r,hm,hd2=>
   have a:=(hm y).1 (by simp)
   have b:=(hm z).1 (by simp)
   rw[List.nodup_cons] at hd2
   exact absurd (by rw[a,b];simp) hd2.1
 rw[e];rfl
theorem C3{xs:List Int}(h:xs.Pairwise (·<·)):xs.Nodup:=h.imp fun h=>by omega
theorem A4(h1:1≤t)(h3:t≤3):b9 t (cR (jM t sets))=true:=by
 have hg:=t7 (sets:=sets) h1 h3
 unfold b9
 rw[l9 hg.1 hg.2,Bool.true_and,List.all_eq_true]
 intro w hw
 rw[List.mem_range] at hw
 rw[decide_eq_true_eq]
 refine C1 (C3 (lL _)) ((AJ h1 h3 _).2 (j1.2 ⟨w,hw,rfl⟩)) (vH hw) fun y hy hyw=> ?_
 obtain⟨v,hv,rfl⟩:=j1.1 ((AJ h1 h3 y).1 hy)
 rw[mY,Bool.and_eq_true] at hyw
 exact(CO hyw.2).symm
theorem YY(h1:1≤t)(h3:t≤3)(hs:∀x∈sets,aO t x=true)(hl:sets.length≤70):SG t sets=cR (jM t sets):=by
 unfold SG
 rw[if_pos]
 simp only[Bool.and_eq_true,decide_eq_true_eq,List.all_eq_true]
 exact⟨⟨hs,h1,h3⟩,hl⟩
theorem CQ(h1:1≤t)(h3:t≤3){s:Int}(hs:0≤s)(hs2:s≤aJ t):aF s (jM t sets)=true↔∀v w,aI s v=true→aI s w=true→gH sets v w=true:=by
 rw[bP]
 constructor
 ·rintro⟨x,hx,hw⟩ v w hv hw2
  obtain⟨u,_,rfl⟩:=j1.1 hx
  rw[eA hs] at hw
  have a:=hw v hv
  have b:=hw w hw2
  rw[mY,Bool.and_eq_true] at a b
  exact tR a.2 (CR b.2)
 ·intro h
  by_cases he:∃v,aI s v=true
  ·obtain⟨v,hv⟩:=he
   refine⟨_,j1.2 ⟨v,fX h1 h3 hs hs2 hv,rfl⟩,(eA hs).2 fun w hw=> ?_⟩
   rw[mY,decide_eq_true (fX h1 h3 hs hs2 hw),h w v hw hv];rfl
  ·refine⟨_,j1.2 ⟨0,by have:=(o3 h1 h3).1;omega,rfl⟩,(eA hs).2 fun w hw=>absurd ⟨w,hw⟩ he⟩
theorem yQ{x s:Int}(hx:aO t x=true)(hs:0≤s)(hs2:s≤aJ t):aF s (dQ t [x])=true↔∀v w,aI s v=true→aI s w=true→aI x v=aI x w:=by
 obtain⟨h1,h3,hx0,hxa,_⟩:=aZ hx
 have hi:=fG hx
 rw[lE hi,gS hi (n7 hi) hs,lB hi,vS hx0,kZ,kZ,Bool.or_eq_true,l6 h1 h3 hs hs2 hx0 hxa,eA hs]
 constructor
 ·rintro(h|h) v w hv hw
  ·rw[h v hv,h w hw]
  ·have h2:s.toNat &&& x.toNat=0:=by unfold aQ at h;omega
   have key:∀u,aI s u=true→aI x u=false:=fun u hu=>by
    have:=congrArg (fun y=>y.testBit u) h2
    simp only[Nat.testBit_and,Nat.zero_testBit] at this
    unfold aI at*
    rw[hu] at this;simpa using this
   rw[key v hv,key w hw]
 ·intro h
  by_cases he:∃v,aI s v=true∧aI x v=false
  ·obtain⟨v,hv,hxv⟩:=he
   right
   have:s.toNat &&& x.toNat=0:=by
    apply Nat.eq_of_testBit_eq
    intro i
    rw[Nat.testBit_and,Nat.zero_testBit]
    cases hi:s.toNat.testBit i
    ·rfl
    ·have:=h i v hi hv
     rw[hxv] at this
     unfold aI at this
     rw[this];rfl
   unfold aQ;omega
  ·left
   intro w hw
   cases hxw:aI x w
   ·exact absurd ⟨w,hw,hxw⟩ he
   ·rfl
theorem YP(h1:1≤t)(h3:t≤3)(hsets:∀x∈sets,aO t x=true){s:Int}(hs:0≤s)(hs2:s≤aJ t):
  cF t (cR (jM t sets)) s=sets.all fun x=>cF t (dQ t [x]) s:=by
 have hg:=t7 (sets:=sets) h1 h3
 rw[fJ (l9 hg.1 hg.2) hs hs2,oD hg.range hs,Bool.eq_iff_iff,CQ h1 h3 hs hs2,List.all_eq_true]
 constructor
 ·intro h x hx
  rw[fJ (o8 (fG (hsets x hx))) hs hs2,yQ (hsets x hx) hs hs2]
  intro v w hv hw
  have:=h v w hv hw
  unfold gH at this
  rw[List.all_eq_true] at this
  simpa using this x hx
 ·intro h v w hv hw
  unfold gH
  rw[List.all_eq_true]
  intro x hx
  have:=h x hx
  rw[fJ (o8 (fG (hsets x hx))) hs hs2,yQ (hsets x hx) hs hs2] at this
  rw[this v w hv hw];simp
theorem kE{xs:List Int}(h:b9 t xs=true){w:Nat}(hw:w<aP t):∃x∈xs,aI x w=true∧∀y∈xs,aI y w=true→y=x:=by
 unfold b9 at h
 rw[Bool.and_eq_true,List.all_eq_true] at h
 have:=h.2 w (List.mem_range.2 hw)
 rw[decide_eq_true_eq] at this
 match e:xs.filter (fun x=>aI x w),this with
 |[x],_=>
  have hm:∀y,y∈xs.filter (fun x=>aI x w)↔y=x:=fun y=>by rw[e];simp
  have h1:=(hm x).2 rfl
  rw[List.mem_filter] at h1
  exact⟨x,h1.1,h1.2,fun y hy hyw=>(hm y).1 (List.mem_filter.2 ⟨hy,hyw⟩)⟩
theorem iI{xs:List Int}(h:b9 t xs=true):aC t xs=true:=by
 unfold b9 at h;rw[Bool.and_eq_true] at h;exact h.1
theorem WU{xs:List Int}(hx:aC t xs=true):decide (cR (jM t xs)=xs)=b9 t xs:=by
 obtain⟨h1,h3⟩:=cN hx
 rw[Bool.eq_iff_iff,decide_eq_true_eq]
 constructor
 ·intro h;rw[←h];exact A4 h1 h3
 ·intro h
  have hg:=t7 (sets:=xs) h1 h3
  refine nM (l9 hg.1 hg.2) hx fun s hs hs2=> ?_
  rw[oD hg.range hs,Bool.eq_iff_iff,CQ h1 h3 hs hs2]
  constructor
  ·intro hsame
   by_cases he:∃v,aI s v=true
   ·obtain⟨v,hv⟩:=he
    obtain⟨x,hxm,hxv,_⟩:=kE h (fX h1 h3 hs hs2 hv)
    refine bP.2 ⟨x,hxm,(eA hs).2 fun w hw=> ?_⟩
    have:=hsame v w hv hw
    unfold gH at this
    rw[List.all_eq_true] at this
    have:=this x hxm
    rw[hxv] at this
    simpa using this.symm
   ·obtain⟨x,hxm⟩:=List.exists_mem_of_ne_nil xs (jG hx)
    exact bP.2 ⟨x,hxm,(eA hs).2 fun w hw=>absurd ⟨w,hw⟩ he⟩
  ·intro ha v w hv hw
   obtain⟨x,hxm,hwx⟩:=bP.1 ha
   rw[eA hs] at hwx
   obtain⟨z,_,_,huv⟩:=kE h (fX h1 h3 hs hs2 hv)
   obtain⟨z2,_,_,huw⟩:=kE h (fX h1 h3 hs hs2 hw)
   unfold gH
   rw[List.all_eq_true]
   intro y hy
   rw[beq_iff_eq,Bool.eq_iff_iff]
   constructor
   ·intro hyv
    have:y=x:=(huv y hy hyv).trans (huv x hxm (hwx v hv)).symm
    rw[this];exact hwx w hw
   ·intro hyw
    have:y=x:=(huw y hy hyw).trans (huw x hxm (hwx w hw)).symm
    rw[this];exact hwx v hv
end
end Go.Proofs.YtfhjcacfchkdpaaGreatDoor

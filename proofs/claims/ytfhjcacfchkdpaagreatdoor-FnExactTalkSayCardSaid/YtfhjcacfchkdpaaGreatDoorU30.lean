/-
  What the proofs of this seat's statements share (MathQ, MathT, LdcG, LdcH).
-/
import Derived.Deep.RegionHeld3
import Derived.IntWalk
import Derived.Test.YtfhjcacfchkdpaaGreatDoorU16
set_option maxRecDepth 100000
set_option maxHeartbeats 32000000
namespace Go.Proofs.YtfhjcacfchkdpaaGreatDoor
open Go.RowKit
def jL(t:Int):Ld→Bool
 | .one=>true
 | .zero=>true
 | .thing i=>decide ((i:Int)<t)
 | .no x=>jL t x
 | .pre x y=>jL t x&&jL t y
 | .and_ x y=>jL t x&&jL t y
 | .or_ x y=>jL t x&&jL t y
 | .if_ x y=>jL t x&&jL t y
def bX:Ld→List Nat
 | .one=>[49]
 | .zero=>[48]
 | .thing i=>[97+i]
 | .no x=>33::bX x
 | .pre x y=>91::(bX x++93::bX y)
 | .and_ x y=>40::(bX x++38::(bX y++[41]))
 | .or_ x y=>40::(bX x++124::(bX y++[41]))
 | .if_ x y=>40::(bX x++62::(bX y++[41]))
theorem E1(t:Int):∀(n:Nat) (l:List Nat) (x:Ld) (r:List Nat),bJ t n l=some (x,r)→jL t x=true∧l=bX x++r
 |0,_,_,_,h=>by cases h
 |_+1,[],_,_,h=>by cases h
 |n+1,c::l,x,r,h=>by
  have ih:=E1 t n
  unfold bJ at h
  split at h
  ·cases h;rename_i hc;subst hc;exact⟨rfl,rfl⟩
  split at h
  ·cases h;rename_i hc;subst hc;exact⟨rfl,rfl⟩
  split at h
  ·cases h;rename_i hc;exact⟨by simp[jL];omega,by simp[bX];omega⟩
  split at h
  ·obtain⟨⟨y,q⟩,hy,e⟩:=Option.map_eq_some_iff.1 h
   cases e;have:=ih _ _ _ hy;rename_i hc;subst hc;exact⟨this.1,by rw[this.2];rfl⟩
  split at h
  ·rename_i hc
   split at h
   ·rename_i x1 m l2 h1
    split at h
    ·rename_i hm
     obtain⟨⟨y,q⟩,hy,e⟩:=Option.map_eq_some_iff.1 h
     cases e
     obtain⟨a1,b1⟩:=ih _ _ _ h1
     obtain⟨a2,b2⟩:=ih _ _ _ hy
     subst b1 b2 hc hm
     exact⟨by simp[jL,a1,a2],by simp[bX]⟩
    ·cases h
   ·cases h
  split at h
  ·rename_i hc
   split at h
   ·rename_i x1 m l2 h1
    split at h
    ·rename_i y1 e r1 h2
     split at h
     ·rename_i he
      obtain⟨z,hz,e2⟩:=Option.map_eq_some_iff.1 h
      cases e2
      obtain⟨a1,b1⟩:=ih _ _ _ h1
      obtain⟨a2,b2⟩:=ih _ _ _ h2
      subst b1 b2 hc he
      unfold GO at hz
      split at hz
      ·cases hz;rename_i hm;subst hm;exact⟨by simp[jL,a1,a2],by simp[bX]⟩
      split at hz
      ·cases hz;rename_i hm;subst hm;exact⟨by simp[jL,a1,a2],by simp[bX]⟩
      split at hz
      ·cases hz;rename_i hm;subst hm;exact⟨by simp[jL,a1,a2],by simp[bX]⟩
      ·cases hz
     ·cases h
    ·cases h
   ·cases h
  ·cases h
theorem iJ(t:Int):∀(x:Ld) (n:Nat) (r:List Nat),jL t x=true→t≤26→(bX x).length≤n→bJ t n (bX x++r)=some (x,r)
 | .one,n+1,r,_,_,_=>rfl
 | .zero,n+1,r,_,_,_=>rfl
 | .thing i,n+1,r,h,ht,_=>by
   simp only[jL,decide_eq_true_eq] at h
   show bJ t (n+1) ((97+i)::r)=_
   unfold bJ
   rw[if_neg (by omega),if_neg (by omega),if_pos (by omega)]
   congr 3;omega
 | .no x,n+1,r,h,ht,hl=>by
   simp only[bX,List.length_cons] at hl
   show bJ t (n+1) (33::(bX x++r))=_
   unfold bJ
   rw[if_neg (by omega),if_neg (by omega),if_neg (by omega),if_pos rfl,iJ t x n r h ht (by omega)];rfl
 | .pre x y,n+1,r,h,ht,hl=>by
   simp only[bX,List.length_cons,List.length_append] at hl
   simp only[jL,Bool.and_eq_true] at h
   show bJ t (n+1) (91::((bX x++93::bX y)++r))=_
   have e:(bX x++93::bX y)++r=bX x++(93::(bX y++r)):=by simp
   rw[e]
   unfold bJ
   rw[if_neg (by omega),if_neg (by omega),if_neg (by omega),if_neg (by omega),if_pos rfl,iJ t x n _ h.1 ht (by omega)]
   simp only[]
   rw[iJ t y n _ h.2 ht (by omega)];rfl
 | .and_ x y,n+1,r,h,ht,hl=>by
   simp only[bX,List.length_cons,List.length_append,List.length_nil] at hl
   simp only[jL,Bool.and_eq_true] at h
   show bJ t (n+1) (40::((bX x++38::(bX y++[41]))++r))=_
   have e:(bX x++38::(bX y++[41]))++r=bX x++(38::(bX y++(41::r))):=by simp
   rw[e]
   unfold bJ
   rw[if_neg (by omega),if_neg (by omega),if_neg (by omega),if_neg (by omega),if_neg (by omega),if_pos rfl,iJ t x n _ h.1 ht (by omega)]
   simp only[]
   rw[iJ t y n _ h.2 ht (by omega)];rfl
 | .or_ x y,n+1,r,h,ht,hl=>by
   simp only[bX,List.length_cons,List.length_append,List.length_nil] at hl
   simp only[jL,Bool.and_eq_true] at h
   show bJ t (n+1) (40::((bX x++124::(bX y++[41]))++r))=_
   have e:(bX x++124::(bX y++[41]))++r=bX x++(124::(bX y++(41::r))):=by simp
   rw[e]
   unfold bJ
   rw[if_neg (by omega),if_neg (by omega),if_neg (by omega),if_neg (by omega),if_neg (by omega),if_pos rfl,iJ t x n _ h.1 ht (by omega)]
   simp only[]
   rw[iJ t y n _ h.2 ht (by omega)];rfl
 | .if_ x y,n+1,r,h,ht,hl=>by
   simp only[bX,List.length_cons,List.length_append,List.length_nil] at hl
   simp only[jL,Bool.and_eq_true] at h
   show bJ t (n+1) (40::((bX x++62::(bX y++[41]))++r))=_
   have e:(bX x++62::(bX y++[41]))++r=bX x++(62::(bX y++(41::r))):=by simp
   rw[e]
   unfold bJ
   rw[if_neg (by omega),if_neg (by omega),if_neg (by omega),if_neg (by omega),if_neg (by omega),if_pos rfl,iJ t x n _ h.1 ht (by omega)]
   simp only[]
   rw[iJ t y n _ h.2 ht (by omega)];rfl
 | .one,0,_,_,_,hl=>by simp[bX] at hl
 | .zero,0,_,_,_,hl=>by simp[bX] at hl
 | .thing _,0,_,_,_,hl=>by simp[bX] at hl
 | .no _,0,_,_,_,hl=>by simp[bX] at hl
 | .pre _ _,0,_,_,_,hl=>by simp[bX] at hl
 | .and_ _ _,0,_,_,_,hl=>by simp[bX] at hl
 | .or_ _ _,0,_,_,_,hl=>by simp[bX] at hl
 | .if_ _ _,0,_,_,_,hl=>by simp[bX] at hl
theorem QK{t:Int}{l:List Nat}{x:Ld}:mD t l=some x↔(1≤t∧t≤3∧l.length≤60∧jL t x=true∧l=bX x):=by
 unfold mD
 constructor
 ·intro h
  split at h
  ·rename_i hc
   split at h
   ·rename_i y hy
    cases h
    have:=E1 t _ _ _ _ hy
    simp at this
    exact⟨hc.1,hc.2.1,hc.2.2,this.1,this.2⟩
   ·cases h
  ·cases h
 ·rintro⟨h1,h3,hl,hs,rfl⟩
  rw[if_pos ⟨h1,h3,hl⟩]
  have:=iJ t x (bX x).length [] hs (by omega) (Nat.le_refl _)
  rw[List.append_nil] at this
  rw[this]
def cG(t:Int)(x:Ld)(v:Int):Int:=if v<0 then-1 else(aT t x v).getD (-1)
theorem N8(t:Int)(x:Ld){v:Int}(h8:v<256): -1≤cG t x v∧cG t x v≤max v (-1):=by
 unfold cG
 split
 ·omega
 ·cases h:aT t x v with
  |none=>simp;omega
  |some u=>have:=j9 (by omega) h8 h;simp;omega
theorem iU{t:Int}{x:Ld}{v u:Int}(hv:0≤v)(h:aT t x v=some u):cG t x v=u:=by unfold cG;rw[if_neg (by omega),h];rfl
theorem fO{t:Int}{x:Ld}{v:Int}(h:aT t x v=none):cG t x v= -1:=by unfold cG;rw[h];split<;>rfl
theorem jH{t:Int}{x:Ld}{v:Int}(h:v<0):cG t x v= -1:=by unfold cG;rw[if_pos h]
theorem S6{t v:Int}(h: -1≤v):cG t .one v=v:=by
 unfold cG aT;split
 ·omega
 ·rfl
theorem RH{t v:Int}(h: -1≤v):cG t .zero v=min v 0:=by
 unfold cG aT;split
 ·omega
 ·simp;omega
theorem N0{t v:Int}{i:Nat}:cG t (.thing i) v=if v<0 then-1 else aQ v (fH t i):=rfl
theorem U4{t v:Int}{x:Ld}(h8:v<256):cG t (.no x) v=if cG t x v<0 then-1 else v-cG t x v:=by
 by_cases hv:v<0
 ·rw[jH hv,jH hv];rfl
 ·cases h:aT t x v with
  |none=>rw[fO h,fO (show aT t (.no x) v=none by show(aT t x v).map _=_;rw[h];rfl)];rfl
  |some u=>
   have:=j9 (by omega) h8 h
   rw[iU (by omega) h,if_neg (by omega)]
   exact iU (by omega) (by show(aT t x v).map _=_;rw[h];rfl)
theorem TO{t v:Int}{x y:Ld}(_hv1: -1≤v):cG t (.pre x y) v=if cG t x v=v then cG t y v else-1:=by
 by_cases hv:v<0
 ·rw[jH hv,jH hv,jH hv];split<;>rfl
 ·cases h:aT t x v with
  |none=>
   rw[fO h,if_neg (by omega)]
   exact fO (by show(aT t x v).bind _=_;rw[h];rfl)
  |some u=>
   rw[iU (by omega) h]
   have e:aT t (.pre x y) v=if u=v then aT t y v else none:=by show(aT t x v).bind _=_;rw[h];rfl
   by_cases hu:u=v
   ·rw[if_pos hu] at e⊢
    unfold cG
    rw[e]
   ·rw[if_neg hu] at e⊢
    exact fO e
theorem T9{t v:Int}{x y:Ld}(h8:v<256):cG t (.and_ x y) v=cG t y (cG t x v):=by
 by_cases hv:v<0
 ·rw[jH hv,jH hv,jH (by omega)]
 ·cases h:aT t x v with
  |none=>
   rw[fO h,jH (v:= -1) (by omega)]
   exact fO (x:= .and_ x y) (by show(aT t x v).bind _=_;rw[h];rfl)
  |some u=>
   have:=j9 (by omega) h8 h
   rw[iU (by omega) h]
   have e:aT t (.and_ x y) v=aT t y u:=by show(aT t x v).bind _=_;rw[h];rfl
   unfold cG
   rw[e,if_neg hv,if_neg (by omega)]
theorem VS{t v:Int}{x y:Ld}(h8:v<256):cG t (.or_ x y) v=if cG t x v<0∨cG t y (v-cG t x v)<0 then-1 else cG t x v+cG t y (v-cG t x v):=by
 by_cases hv:v<0
 ·rw[jH hv,jH hv,if_pos (.inl (by omega))]
 ·cases h:aT t x v with
  |none=>
   rw[fO h,if_pos (.inl (by omega))]
   exact fO (by show(aT t x v).bind _=_;rw[h];rfl)
  |some u=>
   have hu:=j9 (by omega) h8 h
   rw[iU (by omega) h]
   cases h2:aT t y (v-u) with
   |none=>
    rw[fO h2,if_pos (.inr (by omega))]
    exact fO (by show(aT t x v).bind _=_;rw[h];show(aT t y (v-u)).map _=_;rw[h2];rfl)
   |some z=>
    have hz:=j9 (by omega) (by omega) h2
    rw[iU (by omega) h2,if_neg (by omega)]
    exact iU (by omega) (by show(aT t x v).bind _=_;rw[h];show(aT t y (v-u)).map _=_;rw[h2];rfl)
theorem VP{t v:Int}{x y:Ld}(h8:v<256):cG t (.if_ x y) v=if cG t x v<0∨cG t y (cG t x v)<0 then-1 else v-(cG t x v-cG t y (cG t x v)):=by
 by_cases hv:v<0
 ·rw[jH hv,jH hv,if_pos (.inl (by omega))]
 ·cases h:aT t x v with
  |none=>
   rw[fO h,if_pos (.inl (by omega))]
   exact fO (by show(aT t x v).bind _=_;rw[h];rfl)
  |some u=>
   have hu:=j9 (by omega) h8 h
   rw[iU (by omega) h]
   cases h2:aT t y u with
   |none=>
    rw[fO h2,if_pos (.inr (by omega))]
    exact fO (by show(aT t x v).bind _=_;rw[h];show(aT t y u).map _=_;rw[h2];rfl)
   |some z=>
    have hz:=j9 (by omega) (by omega) h2
    rw[iU (by omega) h2,if_neg (by omega)]
    exact iU (by omega) (by show(aT t x v).bind _=_;rw[h];show(aT t y u).map _=_;rw[h2];rfl)
theorem VC{t:Int}{s:ByteArray}{x:Ld}(h:rZ t s=some x):1≤t∧t≤3∧s.size≤60∧jL t x=true∧aG s=bX x:=by
 have:=QK.1 h
 rwa [bR] at this
def JL(a b:Int)(w:World)(e:Ending)(w' :World):Prop:=e= .returned (.tuple #[.int .i64 a,.int .i64 b])∧Below w.heap.size w w'
theorem JL.of{a b a' b' :Int}{w w' :World}(h:Below w.heap.size w w')(ha:a' =a)(hb:b' =b):JL a b w (.returned (.tuple #[.int .i64 a',.int .i64 b'])) w' :=by subst ha hb;exact⟨rfl,h⟩
end Go.Proofs.YtfhjcacfchkdpaaGreatDoor

/-
  What the proofs of this seat's statements share (Sperner, MathD, TogI, TogJ, TogK).
-/
import Derived.Lib.AppendZeros
import Derived.Test.YtfhjcacfchkdpaaGreatDoorU3
set_option maxRecDepth 100000
set_option maxHeartbeats 32000000
namespace Go.Proofs.YtfhjcacfchkdpaaGreatDoor
def xI:List (List Nat):=[[0,1,3,7,15,31,63,127,255],[2,6,14,30,62,126,254],[4,5,13,29,61,125,253],[8,9,11,27,59,123,251],[10,26,58,122,250],[12,28,60,124,252],[16,17,19,23,55,119,247],[18,22,54,118,246],[20,21,53,117,245],[24,25,57,121,249],[32,33,35,39,47,111,239],[34,38,46,110,238],[36,37,45,109,237],[40,41,43,107,235],[42,106,234],[44,108,236],[48,49,51,115,243],[50,114,242],[52,116,244],[56,120,248],[64,65,67,71,79,95,223],[66,70,78,94,222],[68,69,77,93,221],[72,73,75,91,219],[74,90,218],[76,92,220],[80,81,83,87,215],[82,86,214],[84,85,213],[88,89,217],[96,97,99,103,231],[98,102,230],[100,101,229],[104,105,233],[112,113,241],[128,129,131,135,143,159,191],[130,134,142,158,190],[132,133,141,157,189],[136,137,139,155,187],[138,154,186],[140,156,188],[144,145,147,151,183],[146,150,182],[148,149,181],[152,153,185],[160,161,163,167,175],[162,166,174],[164,165,173],[168,169,171],[170],[172],[176,177,179],[178],[180],[184],[192,193,195,199,207],[194,198,206],[196,197,205],[200,201,203],[202],[204],[208,209,211],[210],[212],[216],[224,225,227],[226],[228],[232],[240]]
def pM:List Nat:=[0,0,1,0,2,2,1,0,3,3,4,3,5,2,1,0,6,6,7,6,8,8,7,6,9,9,4,3,5,2,1,0,10,10,11,10,12,12,11,10,13,13,14,13,15,12,11,10,16,16,17,16,18,8,7,6,19,9,4,3,5,2,1,0,20,20,21,20,22,22,21,20,23,23,24,23,25,22,21,20,26,26,27,26,28,28,27,26,29,29,24,23,25,22,21,20,30,30,31,30,32,32,31,30,33,33,14,13,15,12,11,10,34,34,17,16,18,8,7,6,19,9,4,3,5,2,1,0,35,35,36,35,37,37,36,35,38,38,39,38,40,37,36,35,41,41,42,41,43,43,42,41,44,44,39,38,40,37,36,35,45,45,46,45,47,47,46,45,48,48,49,48,50,47,46,45,51,51,52,51,53,43,42,41,54,44,39,38,40,37,36,35,55,55,56,55,57,57,56,55,58,58,59,58,60,57,56,55,61,61,62,61,63,28,27,26,64,29,24,23,25,22,21,20,65,65,66,65,67,32,31,30,68,33,14,13,15,12,11,10,69,34,17,16,18,8,7,6,19,9,4,3,5,2,1,0]
theorem N7:(xI.all fun l=>decide (l.Pairwise fun a b=>a &&& b=a))=true:=by decide+kernel
theorem zD:((List.range 256).all fun s=>(xI.getD (pM.getD s 0) []).contains s&&decide (pM.getD s 0<70))=true:=by decide+kernel
theorem sM:∀(n:Nat) (l:List Nat),l.Nodup→(∀x∈l,x<n)→l.length≤n
 |0,l,_,h=>by
  cases l with
  |nil=>simp
  |cons x r=>exact absurd (h x (by simp)) (by omega)
 |n+1,l,hd,h=>by
  by_cases hn:n∈l
  ·have h1:=sM n (l.erase n) (hd.erase n) (fun x hx=>by
    have:=(hd.mem_erase_iff).1 hx
    have:=h x this.2
    omega)
   rw[List.length_erase_of_mem hn] at h1
   omega
  ·have:=sM n l hd (fun x hx=>by
    have h2:=h x hx
    have:x≠n:=fun e=>hn (e▸hx)
    omega)
   omega
theorem KY{a b:Nat}(ha:a<256)(hb:b<256)(h:pM.getD a 0=pM.getD b 0):a &&& b=a∨b &&& a=b:=by
 have h1:=List.all_eq_true.1 zD a (List.mem_range.2 ha)
 have h2:=List.all_eq_true.1 zD b (List.mem_range.2 hb)
 simp only[Bool.and_eq_true,decide_eq_true_eq,List.contains_eq_mem] at h1 h2
 rw[←h] at h2
 obtain⟨hma,_⟩:=h1
 obtain⟨hmb,_⟩:=h2
 have hl:(xI.getD (pM.getD a 0) []).Pairwise fun a b=>a &&& b=a:=by
  rw[List.getD_eq_getElem?_getD]
  cases e:xI[pM.getD a 0]? with
  |none=>exact List.Pairwise.nil
  |some l=>exact of_decide_eq_true (List.all_eq_true.1 N7 l (List.mem_of_getElem? e))
 obtain⟨i,hi,ei⟩:=List.mem_iff_getElem.1 hma
 obtain⟨j,hj,ej⟩:=List.mem_iff_getElem.1 hmb
 rcases Nat.lt_trichotomy i j with hij|hij|hij
 ·left;have:=List.pairwise_iff_getElem.1 hl i j hi hj hij;rw[ei,ej] at this;exact this
 ·subst hij;left;rw[←ei,←ej];exact Nat.and_self _
 ·right;have:=List.pairwise_iff_getElem.1 hl j i hj hi hij;rw[ei,ej] at this;exact this
theorem G9{xs:List Int}(hr:∀x∈xs,0≤x∧x<256)(hp:g7 xs=true):xs.length≤70:=by
 have hd:(xs.map fun x=>pM.getD x.toNat 0).Nodup:=by
  unfold List.Nodup
  rw[List.pairwise_map,List.pairwise_iff_getElem]
  intro i j hi hj hij e
  have ha:=hr _ (List.getElem_mem hi)
  have hb:=hr _ (List.getElem_mem hj)
  have h1:=pO hp hij (List.getElem?_eq_getElem hi) (List.getElem?_eq_getElem hj)
  rcases KY (by omega) (by omega) e with h|h
  ·have:aB xs[i] xs[j]=true:=by unfold aB aQ;rw[h];simp;omega
   rw[h1.2.1] at this;cases this
  ·have:aB xs[j] xs[i]=true:=by unfold aB aQ;rw[h];simp;omega
   rw[h1.2.2] at this;cases this
 have:=sM 70 _ hd (fun x hx=>by
  obtain⟨y,hy,rfl⟩:=List.mem_map.1 hx
  have hy2:=hr y hy
  have h1:=List.all_eq_true.1 zD y.toNat (List.mem_range.2 (by omega))
  simp only[Bool.and_eq_true,decide_eq_true_eq] at h1
  exact h1.2)
 simpa using this
end Go.Proofs.YtfhjcacfchkdpaaGreatDoor
namespace Go.Proofs.YtfhjcacfchkdpaaGreatDoor
open Go.RowKit
theorem pG{xs:List Int}(hr:∀x∈xs,0≤x∧x<256):∀x∈cR xs,x∈xs:=fun x hx=>((kF hr x).1 hx).1
theorem vN{xs:List Int}(hr:∀x∈xs,0≤x∧x<256){x:Int}(hx:x∈xs):∃z∈cR xs,aB x z=true:=by
 obtain⟨ys,hs,hm⟩:∃ys:List Int,ys.Pairwise (·≤·)∧(∀x,x∈ys↔x∈xs):=by
  refine⟨xs.mergeSort (fun a b=>decide (a≤b)),?_,fun x=>List.mem_mergeSort⟩
  have:=List.pairwise_mergeSort (le:=fun a b:Int=>decide (a≤b)) (fun a b c h1 h2=>by simp only[decide_eq_true_eq] at*;omega) (fun a b=>by simp only[Bool.or_eq_true,decide_eq_true_eq];omega) xs
  exact this.imp (fun h=>by simpa using h)
 have h0:∀y∈ys,0≤y:=fun y hy=>(hr y ((hm y).1 hy)).1
 have hc:=yB ys h0 x ((hm x).2 hx)
 rw[AF hr hs hm] at hc
 exact bP.1 hc
theorem oD{xs:List Int}(hr:∀x∈xs,0≤x∧x<256){s:Int}(hs:0≤s):aF s (cR xs)=aF s xs:=by
 rw[Bool.eq_iff_iff,bP,bP]
 constructor
 ·rintro⟨x,hx,hw⟩;exact⟨x,pG hr x hx,hw⟩
 ·rintro⟨x,hx,hw⟩
  obtain⟨z,hz,hxz⟩:=vN hr hx
  exact⟨z,hz,cC hs (hr x hx).1 hw hxz⟩
theorem cV{t:Int}{xs:List Int}(h:∀x∈xs,aO t x=true):∀x∈xs,0≤x∧x<256:=fun x hx=>by have:=aZ (h x hx);omega
theorem l9{t:Int}{xs:List Int}(hne:xs≠[])(h:∀x∈xs,aO t x=true):aC t (cR xs)=true:=by
 have hr:=cV h
 have hp:g7 (cR xs)=true:=P9 (lL xs) fun x hx y hy=>((kF hr x).1 hx).2 y ((kF hr y).1 hy).1
 have hr2:∀x∈cR xs,0≤x∧x<256:=fun x hx=>hr x (pG hr x hx)
 obtain⟨x,hx⟩:=List.exists_mem_of_ne_nil xs hne
 obtain⟨z,hz,_⟩:=vN hr hx
 unfold aC dR
 simp only[Bool.and_eq_true,decide_eq_true_eq,List.all_eq_true]
 exact⟨⟨⟨List.length_pos_of_mem hz,G9 hr2 hp⟩,fun y hy=>h y (pG hr y hy)⟩,hp⟩
theorem jG{t:Int}{xs:List Int}(h:aC t xs=true):xs≠[]:=by
 have:=dJ h;intro e;subst e;simp at this
theorem nM{t:Int}{xs ys:List Int}(hx:aC t xs=true)(hy:aC t ys=true)(h:∀s,0≤s→s≤aJ t→aF s xs=aF s ys):xs=ys:=by
 obtain⟨h1,h3⟩:=cN hx
 refine F6 hx hy fun k hk0 hk=> ?_
 unfold cF
 rw[hx,hy,cW h1 h3 hk0 hk,h k hk0 hk]
theorem fJ{t:Int}{xs:List Int}(hx:aC t xs=true){k:Int}(hk0:0≤k)(hk:k≤aJ t):cF t xs k=aF k xs:=by
 obtain⟨h1,h3⟩:=cN hx
 unfold cF
 rw[hx,cW h1 h3 hk0 hk];rfl
theorem gD(a b:Int):aB (aQ a b) a=true:=by
 rw[dA (aR _ _)];intro i hi
 change ((((a.toNat &&& b.toNat:Nat):Int)).toNat).testBit i=true at hi
 rw[Int.toNat_natCast,Nat.testBit_and,Bool.and_eq_true] at hi;exact hi.1
theorem d4(a b:Int):aB (aQ a b) b=true:=by
 rw[dA (aR _ _)];intro i hi
 change ((((a.toNat &&& b.toNat:Nat):Int)).toNat).testBit i=true at hi
 rw[Int.toNat_natCast,Nat.testBit_and,Bool.and_eq_true] at hi;exact hi.2
theorem kK{c a b:Int}(hc:0≤c)(h1:aB c a=true)(h2:aB c b=true):aB c (aQ a b)=true:=by
 rw[dA hc] at*
 intro i hi
 show((((a.toNat &&& b.toNat:Nat):Int)).toNat).testBit i=true
 rw[Int.toNat_natCast,Nat.testBit_and,h1 i hi,h2 i hi];rfl
theorem rD{s u:Int}{xs:List Int}(hu:0≤u)(hs:0≤s)(h:aB u s=true)(ha:aF s xs=true):aF u xs=true:=by
 obtain⟨x,hx,hw⟩:=bP.1 ha
 exact bP.2 ⟨x,hx,cC hu hs h hw⟩
theorem xB{t a b:Int}(ha:aO t a=true):aO t (aQ a b)=true:=by
 have:=aZ ha
 exact cW this.1 this.2.1 (aR _ _) (Int.le_trans (lC a b this.2.2.1) this.2.2.2.1)
def eU(a b:List Int):List Int:=a.flatMap fun x=>b.map fun y=>aQ x y
def gU(t:Int)(a b:List Int):List Int:=if(aC t a&&aC t b)=true then cR (eU a b) else[]
def fB(t:Int)(a b:List Int):List Int:=if(aC t a&&aC t b)=true then cR (a++b) else[]
def dT(a b:List Int)(s:Int):Bool:=a.all fun x=>aF (aQ s x) b
def dY(a b:List Int)(k:Nat):List Int:=((List.range k).map fun n:Nat=>(n:Int)).filter (dT a b)
def nP(t:Int)(a b:List Int):List Int:=if(aC t a&&aC t b)=true then cR (dY a b (aJ t+1).toNat) else[]
def iW(t:Int)(a:List Int):List Int:=if aC t a=true then nP t a [0] else[]
def dQ(t:Int)(a:List Int):List Int:=if aC t a=true then fB t a (iW t a) else[]
def eQ(t:Int)(a b:List Int):Bool:=aC t a&&aC t b&&a.all fun x=>aF x b
section
variable {t:Int} {a b c:List Int}
theorem jC{s:Int}:s∈eU a b↔∃x∈a,∃y∈b,aQ x y=s:=by unfold eU;simp[List.mem_flatMap]
theorem jT(ha:aC t a=true):∀s∈eU a b,aO t s=true:=by
 intro s hs
 obtain⟨x,hx,y,_,rfl⟩:=jC.1 hs
 exact xB (eS ha x hx)
theorem wN(s:Int)(hs:0≤s):aF s (eU a b)=(aF s a&&aF s b):=by
 rw[Bool.eq_iff_iff,Bool.and_eq_true,bP,bP,bP]
 constructor
 ·rintro⟨z,hz,hw⟩
  obtain⟨x,hx,y,hy,rfl⟩:=jC.1 hz
  exact⟨⟨x,hx,cC hs (aR _ _) hw (gD _ _)⟩,y,hy,cC hs (aR _ _) hw (d4 _ _)⟩
 ·rintro⟨⟨x,hx,h1⟩,y,hy,h2⟩
  exact⟨_,jC.2 ⟨x,hx,y,hy,rfl⟩,kK hs h1 h2⟩
theorem qY(ha:aC t a=true)(hb:aC t b=true):gU t a b=cR (eU a b):=by unfold gU;rw[ha,hb];rfl
theorem sV(ha:aC t a=true)(hb:aC t b=true):aC t (gU t a b)=true:=by
 rw[qY ha hb]
 refine l9 (fun e=> ?_) (jT ha)
 obtain⟨x,hx⟩:=List.exists_mem_of_ne_nil a (jG ha)
 obtain⟨y,hy⟩:=List.exists_mem_of_ne_nil b (jG hb)
 have:=jC.2 ⟨x,hx,y,hy,rfl⟩
 rw[e] at this;cases this
theorem mZ(ha:aC t a=true)(hb:aC t b=true){s:Int}(hs:0≤s):aF s (gU t a b)=(aF s a&&aF s b):=by
 rw[qY ha hb,oD (cV (jT ha)) hs,wN s hs]
theorem p7(ha:aC t a=true)(hb:aC t b=true):fB t a b=cR (a++b):=by unfold fB;rw[ha,hb];rfl
theorem mX(ha:aC t a=true)(hb:aC t b=true):∀s∈a++b,aO t s=true:=by
 intro s hs
 rcases List.mem_append.1 hs with h|h
 ·exact eS ha s h
 ·exact eS hb s h
theorem jU(ha:aC t a=true)(hb:aC t b=true):aC t (fB t a b)=true:=by
 rw[p7 ha hb]
 refine l9 (fun e=> ?_) (mX ha hb)
 exact jG ha (List.append_eq_nil_iff.1 e).1
theorem gS(ha:aC t a=true)(hb:aC t b=true){s:Int}(hs:0≤s):aF s (fB t a b)=(aF s a||aF s b):=by
 rw[p7 ha hb,oD (cV (mX ha hb)) hs]
 unfold aF;rw[List.any_append]
theorem oF{s:Int}:dT a b s=true↔∀u,0≤u→aB u s=true→aF u a=true→aF u b=true:=by
 unfold dT
 rw[List.all_eq_true]
 constructor
 ·intro h u hu hus hua
  obtain⟨x,hx,hw⟩:=bP.1 hua
  exact rD hu (aR _ _) (kK hu hus hw) (h x hx)
 ·intro h x hx
  exact h _ (aR _ _) (gD _ _) (bP.2 ⟨x,hx,d4 _ _⟩)
theorem M4{s u:Int}(hu:0≤u)(h:aB u s=true)(hg:dT a b s=true):dT a b u=true:=by
 unfold dT at*
 rw[List.all_eq_true] at*
 intro x hx
 refine rD (aR _ _) (aR _ _) (kK (aR _ _) (cC (aR _ _) hu (gD _ _) h) (d4 _ _)) (hg x hx)
theorem rM{k:Nat}{s:Int}:s∈dY a b k↔(0≤s∧s<k∧dT a b s=true):=by
 unfold dY
 rw[List.mem_filter,List.mem_map]
 constructor
 ·rintro⟨⟨n,hn,rfl⟩,h⟩
  rw[List.mem_range] at hn
  exact⟨by omega,by omega,h⟩
 ·rintro⟨h0,h1,h⟩
  exact⟨⟨s.toNat,by rw[List.mem_range];omega,by omega⟩,h⟩
theorem pZ(ha:aC t a=true):∀x∈a,0≤x:=fun x hx=>(dD ha x hx).1
theorem ED(ha:aC t a=true)(hb:aC t b=true):nP t a b=cR (dY a b (aJ t+1).toNat):=by unfold nP;rw[ha,hb];rfl
theorem uG(ha:aC t a=true):∀s∈dY a b (aJ t+1).toNat,aO t s=true:=by
 intro s hs
 obtain⟨h0,h1,_⟩:=rM.1 hs
 obtain⟨h2,h3⟩:=cN ha
 exact cW h2 h3 h0 (by have:=bH t;omega)
theorem CZ(hb:aC t b=true):dT a b 0=true:=by
 unfold dT;rw[List.all_eq_true];intro x _
 obtain⟨y,hy⟩:=List.exists_mem_of_ne_nil b (jG hb)
 exact bP.2 ⟨y,hy,by have e:aQ 0 x=0:=by unfold aQ;simp
                     rw[e];exact pY y⟩
theorem o7(ha:aC t a=true)(hb:aC t b=true):aC t (nP t a b)=true:=by
 rw[ED ha hb]
 refine l9 (fun e=> ?_) (uG ha)
 have:=rM (a:=a) (b:=b) (k:=(aJ t+1).toNat) (s:=0)
 rw[e] at this
 exact absurd (this.2 ⟨by omega,by have:=bH t;omega,CZ hb⟩) (by simp)
theorem nR(ha:aC t a=true)(hb:aC t b=true){s:Int}(hs:0≤s)(hs2:s≤aJ t):aF s (nP t a b)=dT a b s:=by
 rw[ED ha hb,oD (cV (uG ha)) hs,Bool.eq_iff_iff,bP]
 constructor
 ·rintro⟨z,hz,hw⟩
  obtain⟨h0,_,hg⟩:=rM.1 hz
  exact M4 hs hw hg
 ·intro hg
  exact⟨s,rM.2 ⟨hs,by omega,hg⟩,dG s hs⟩
theorem kJ(ha:aC t a=true)(hb:aC t b=true):eQ t a b=true↔∀s,0≤s→s≤aJ t→aF s a=true→aF s b=true:=by
 unfold eQ
 rw[ha,hb,Bool.true_and,Bool.true_and,List.all_eq_true]
 constructor
 ·intro h s hs _ hsa
  obtain⟨x,hx,hw⟩:=bP.1 hsa
  exact rD hs (pZ ha x hx) hw (h x hx)
 ·intro h x hx
  have:=aZ (eS ha x hx)
  exact h x this.2.2.1 this.2.2.2.1 (bP.2 ⟨x,hx,dG x this.2.2.1⟩)
theorem YM(ha:aC t a=true)(hb:aC t b=true){k:Int}(h0:0≤k)(hk:k≤aJ t):cF t (gU t a b) k=(cF t a k&&cF t b k):=by
 rw[fJ (sV ha hb) h0 hk,fJ ha h0 hk,fJ hb h0 hk,mZ ha hb h0]
theorem XG(ha:aC t a=true)(hb:aC t b=true){k:Int}(h0:0≤k)(hk:k≤aJ t):cF t (fB t a b) k=(cF t a k||cF t b k):=by
 rw[fJ (jU ha hb) h0 hk,fJ ha h0 hk,fJ hb h0 hk,gS ha hb h0]
theorem XM(ha:aC t a=true)(hb:aC t b=true):gU t a (fB t a b)=a:=by
 refine nM (sV ha (jU ha hb)) ha fun s h0 _=> ?_
 rw[mZ ha (jU ha hb) h0,gS ha hb h0]
 cases aF s a<;>simp
theorem XO(ha:aC t a=true)(hb:aC t b=true)(hc:aC t c=true):eQ t c (nP t a b)=eQ t (gU t c a) b:=by
 rw[Bool.eq_iff_iff,kJ hc (o7 ha hb),kJ (sV hc ha) hb]
 constructor
 ·intro h s h0 hs hsb
  rw[mZ hc ha h0,Bool.and_eq_true] at hsb
  have:=h s h0 hs hsb.1
  rw[nR ha hb h0 hs,oF] at this
  exact this s h0 (dG s h0) hsb.2
 ·intro h s h0 hs hsc
  rw[nR ha hb h0 hs,oF]
  intro u hu hus hua
  have hu2:u≤aJ t:=Int.le_trans (gZ hus h0) hs
  refine h u hu hu2 ?_
  rw[mZ hc ha hu,Bool.and_eq_true]
  exact⟨rD hu h0 hus hsc,hua⟩
theorem VD(ha:aC t a=true)(hb:aC t b=true)(hc:aC t c=true)(h1:a.length≤1):nP t a (fB t b c)=fB t (nP t a b) (nP t a c):=by
 refine nM (o7 ha (jU hb hc)) (jU (o7 ha hb) (o7 ha hc)) fun s h0 hs=> ?_
 rw[nR ha (jU hb hc) h0 hs,gS (o7 ha hb) (o7 ha hc) h0,nR ha hb h0 hs,nR ha hc h0 hs]
 have hne:=dJ ha
 match a,hne,h1 with
 |[x],_,_=>
  unfold dT
  simp only[List.all_cons,List.all_nil,Bool.and_true]
  exact gS hb hc (aR _ _)
theorem xF(h1:1≤t)(h3:t≤3):∃n:Nat,n≤8∧aJ t=(2^n:Nat)-1:=by
 have:t=1∨t=2∨t=3:=by omega
 rcases this with rfl|rfl|rfl
 ·exact⟨2,by omega,rfl⟩
 ·exact⟨4,by omega,rfl⟩
 ·exact⟨8,by omega,rfl⟩
theorem l6{s g:Int}(h1:1≤t)(h3:t≤3)(hs:0≤s)(hs2:s≤aJ t)(hg:0≤g)(hg2:g≤aJ t):aB s (aJ t-g)=true↔aQ s g=0:=by
 obtain⟨n,_,hn⟩:=xF h1 h3
 rw[hn] at hs2 hg2⊢
 rw[dA hs]
 have hsl:s.toNat<2^n:=by omega
 have hgl:g.toNat<2^n:=by omega
 have e:(((2^n:Nat):Int)-1-g).toNat=2^n-(g.toNat+1):=by omega
 rw[e]
 constructor
 ·intro h
  have:s.toNat &&& g.toNat=0:=by
   apply Nat.eq_of_testBit_eq
   intro i
   rw[Nat.testBit_and,Nat.zero_testBit]
   cases hi:s.toNat.testBit i
   ·rfl
   ·have:=h i hi
    rw[Nat.testBit_two_pow_sub_succ hgl,Bool.and_eq_true] at this
    cases hgi:g.toNat.testBit i
    ·rfl
    ·rw[hgi] at this;simp at this
  unfold aQ;omega
 ·intro h i hi
  have h:s.toNat &&& g.toNat=0:=by unfold aQ at h;omega
  have h2:=congrArg (fun x=>x.testBit i) h
  simp only[Nat.testBit_and,hi,Bool.true_and,Nat.zero_testBit] at h2
  rw[Nat.testBit_two_pow_sub_succ hgl,h2]
  have:i<n:=by
   rcases Nat.lt_or_ge i n with h|h
   ·exact h
   ·rw[Nat.testBit_lt_two_pow (Nat.lt_of_lt_of_le hsl (Nat.pow_le_pow_right (by omega) h))] at hi;cases hi
  simp[this]
theorem jI{s:Int}(hs:0≤s):aB s 0=true↔s=0:=by
 constructor
 ·intro h;have:=gZ h (by omega);omega
 ·rintro rfl;exact dG 0 (by omega)
theorem iQ(ha:aC t a=true):0≤aV a∧aV a≤aJ t:=by
 have:=aZ (RM ha);omega
theorem RV(ha:aC t a=true){s:Int}:dT a [0] s=true↔aQ s (aV a)=0:=by
 have hp:=pZ ha
 have hu:=iQ ha
 rw[oF]
 constructor
 ·intro h
  have key:∀x∈a,aQ s x=0:=fun x hx=>by
   have:=h _ (aR _ _) (gD s x) (bP.2 ⟨x,hx,d4 _ _⟩)
   obtain⟨z,hz,hw⟩:=bP.1 this
   rw[List.mem_singleton] at hz;subst hz
   exact(jI (aR _ _)).1 hw
  obtain⟨h1,h3⟩:=cN ha
  have hw:aB (aV a) (aJ 3-aQ s (aJ 3))=true:=by
   refine nX hp fun x hx=> ?_
   have hx2:=dD ha x hx
   rw[l6 (t:=3) (by omega) (by omega) hx2.1 (by have:aJ 3=255:=rfl;omega) (aR _ _) (uF _ _ (by decide))]
   have:=key x hx
   have h2:aB (aQ x (aQ s (aJ 3))) (aQ s x)=true:=kK (aR _ _) (cC (aR _ _) (aR _ _) (d4 _ _) (gD _ _)) (gD _ _)
   rw[this] at h2
   exact(jI (aR _ _)).1 h2
  have hur:=l8 (dD ha)
  rw[l6 (t:=3) (by omega) (by omega) hu.1 (by have:aJ 3=255:=rfl;omega) (aR _ _) (uF _ _ (by decide))] at hw
  have h4:aB (aQ s (aV a)) (aQ (aV a) (aQ s (aJ 3)))=true:=by
   refine kK (aR _ _) (d4 _ _) (kK (aR _ _) (gD _ _) ?_)
   refine cC (aR _ _) hu.1 (d4 _ _) ?_
   exact(iH (t:=3) (by omega) (by omega) hu.1).2 (by have:aJ 3=255:=rfl;omega)
  rw[hw] at h4
  exact(jI (aR _ _)).1 h4
 ·intro h u hu0 hus hua
  obtain⟨x,hx,hw⟩:=bP.1 hua
  have h5:aB u (aQ s (aV a))=true:=kK hu0 hus (cC hu0 (hp x hx) hw (rV hp hx))
  rw[h] at h5
  exact bP.2 ⟨0,by simp,h5⟩
theorem qM(h1:1≤t)(h3:t≤3):aC t [0]=true:=fG (cW h1 h3 (by omega) (bH t).1)
theorem CJ(ha:aC t a=true):aO t (aJ t-aV a)=true:=by
 obtain⟨h1,h3⟩:=cN ha
 have:=iQ ha
 exact cW h1 h3 (by omega) (by omega)
theorem FW(ha:aC t a=true):iW t a=nP t a [0]:=by unfold iW;rw[ha];rfl
theorem n7(ha:aC t a=true):aC t (iW t a)=true:=by
 obtain⟨h1,h3⟩:=cN ha
 rw[FW ha];exact o7 ha (qM h1 h3)
theorem kZ(s g:Int):aF s [g]=aB s g:=by unfold aF;simp
theorem lB(ha:aC t a=true):iW t a=[aJ t-aV a]:=by
 obtain⟨h1,h3⟩:=cN ha
 have hu:=iQ ha
 refine nM (n7 ha) (fG (CJ ha)) fun s h0 hs=> ?_
 rw[FW ha,nR ha (qM h1 h3) h0 hs,kZ,Bool.eq_iff_iff,RV ha,l6 h1 h3 h0 hs hu.1 hu.2]
theorem vS{g:Int}(h:0≤g):aV [g]=g:=by unfold aV fM;simp;omega
theorem WX(ha:aC t a=true):iW t (iW t a)=[aV a]:=by
 have hu:=iQ ha
 rw[lB (n7 ha),lB ha,vS (by omega)]
 congr 1;omega
theorem qP{xs:List Int}(hr:∀x∈xs,0≤x∧x<256):aV (cR xs)=aV xs:=by
 have hp:∀x∈xs,0≤x:=fun x hx=>(hr x hx).1
 have hpt:∀x∈cR xs,0≤x:=fun x hx=>hp x (pG hr x hx)
 have h1:=l8 hr
 have h2:=l8 (xs:=cR xs) fun x hx=>hr x (pG hr x hx)
 refine jB h2.1 h1.1 (nX hpt fun x hx=>rV hp (pG hr x hx)) (nX hp fun x hx=> ?_)
 obtain⟨z,hz,hw⟩:=vN hr hx
 exact cC (hp x hx) (hpt z hz) hw (rV hpt hz)
theorem GA:∀(xs:List Int) (s:Int) (i:Nat),(xs.foldl fM s).toNat.testBit i=(s.toNat.testBit i||xs.any fun x=>x.toNat.testBit i)
 |[],s,i=>by simp
 |x::r,s,i=>by
  rw[List.foldl_cons,GA r,List.any_cons]
  show((((s.toNat ||| x.toNat:Nat):Int)).toNat.testBit i||_)=_
  rw[Int.toNat_natCast,Nat.testBit_or,Bool.or_assoc]
theorem rU(xs:List Int)(i:Nat):(aV xs).toNat.testBit i=xs.any fun x=>x.toNat.testBit i:=by
 unfold aV;rw[GA];simp
theorem RG(ha:aC t a=true)(hb:aC t b=true):aV (gU t a b)=aQ (aV a) (aV b):=by
 rw[qY ha hb,qP (cV (jT ha))]
 have hx:=l8 (cV (jT (b:=b) ha))
 have:(aV (eU a b)).toNat=(aV a).toNat &&& (aV b).toNat:=by
  apply Nat.eq_of_testBit_eq
  intro i
  rw[rU,Nat.testBit_and,rU,rU,Bool.eq_iff_iff,Bool.and_eq_true,List.any_eq_true,List.any_eq_true,List.any_eq_true]
  constructor
  ·rintro⟨z,hz,hi⟩
   obtain⟨x,hx,y,hy,rfl⟩:=jC.1 hz
   change ((((x.toNat &&& y.toNat:Nat):Int)).toNat).testBit i=true at hi
   rw[Int.toNat_natCast,Nat.testBit_and,Bool.and_eq_true] at hi
   exact⟨⟨x,hx,hi.1⟩,y,hy,hi.2⟩
  ·rintro⟨⟨x,hx,h1⟩,y,hy,h2⟩
   refine⟨_,jC.2 ⟨x,hx,y,hy,rfl⟩,?_⟩
   show((((x.toNat &&& y.toNat:Nat):Int)).toNat).testBit i=true
   rw[Int.toNat_natCast,Nat.testBit_and,h1,h2];rfl
 unfold aQ;omega
theorem lE(ha:aC t a=true):dQ t a=fB t a (iW t a):=by unfold dQ;rw[ha];rfl
theorem o8(ha:aC t a=true):aC t (dQ t a)=true:=by rw[lE ha];exact jU ha (n7 ha)
theorem TT{g:Int}(h1:1≤t)(h3:t≤3)(hg:0≤g)(hg2:g≤aJ t):fM g (aJ t-g)=aJ t:=by
 obtain⟨n,hn8,hn⟩:=xF h1 h3
 have hal:=(bH t).2
 have hz:aQ g (aJ t-g)=0:=by
  have:=(l6 (s:=aJ t-g) (g:=g) h1 h3 (by omega) (by omega) hg hg2).1 (dG _ (by omega))
  unfold aQ at*;rw[Nat.and_comm];exact this
 have:=VJ g (aJ t-g) hg (by omega) (by omega) (by omega)
 omega
theorem AD(ha:aC t a=true):aV (dQ t a)=aJ t:=by
 obtain⟨h1,h3⟩:=cN ha
 have hu:=iQ ha
 rw[lE ha,p7 ha (n7 ha),qP (cV (mX ha (n7 ha))),lB ha]
 unfold aV
 rw[List.foldl_append]
 show fM (aV a) _=_
 exact TT h1 h3 hu.1 hu.2
theorem PB(ha:aC t a=true):dQ t (dQ t a)=dQ t a:=by
 have hw:=o8 ha
 rw[lE hw,lB hw,AD ha]
 have hz:aC t [aJ t-aJ t]=true:=by
  obtain⟨h1,h3⟩:=cN ha
  rw[show aJ t-aJ t=0 by omega];exact qM h1 h3
 refine nM (jU hw hz) hw fun s h0 _=> ?_
 rw[gS hw hz h0,kZ,show aJ t-aJ t=0 by omega]
 cases h:aF s (dQ t a)
 ·cases h2:aB s 0
  ·rfl
  ·rw[(jI h0).1 h2] at h
   obtain⟨y,hy⟩:=List.exists_mem_of_ne_nil _ (jG hw)
   rw[bP.2 ⟨y,hy,pY y⟩] at h;cases h
 ·rfl
theorem MO(ha:aC t a=true):eQ t a (dQ t a)=true:=by
 rw[kJ ha (o8 ha),lE ha]
 intro s h0 _ h
 rw[gS ha (n7 ha) h0,h];rfl
theorem zG(ha:aC t a=true)(hb:aC t b=true):decide (gU t a b=a)=eQ t a b:=by
 rw[Bool.eq_iff_iff,decide_eq_true_eq,kJ ha hb]
 constructor
 ·intro h s h0 _ hs
  have:=mZ ha hb h0
  rw[h,hs] at this
  simpa using this.symm
 ·intro h
  refine nM (sV ha hb) ha fun s h0 hs=> ?_
  rw[mZ ha hb h0]
  cases hsa:aF s a
  ·rfl
  ·rw[h s h0 hs hsa];rfl
theorem CC(ha:aC t a=true)(hb:aC t b=true):cF t (nP t a b) (aJ t)=eQ t a b:=by
 have hal:=bH t
 obtain⟨h1,h3⟩:=cN ha
 rw[fJ (o7 ha hb) hal.1 (Int.le_refl _),nR ha hb hal.1 (Int.le_refl _),Bool.eq_iff_iff,oF,kJ ha hb]
 constructor
 ·exact fun h s h0 hs hsa=>h s h0 ((iH h1 h3 h0).2 hs) hsa
 ·exact fun h u hu hw hua=>h u hu (gZ hw hal.1) hua
end
end Go.Proofs.YtfhjcacfchkdpaaGreatDoor
namespace Go.Proofs.YtfhjcacfchkdpaaGreatDoor
open Go.RowKit
structure iL (w:World) (A:Option Addr) (n c:Nat) (xs:List Int):Prop where
 hn:n=xs.length
 hl:n≤1048576
 hc:n≤c
 hm:c≤maxLen
 hA:cB .i64 w A xs
theorem iL.below{w w' :World}{A:Option Addr}{n c:Nat}{xs:List Int}(h:iL w A n c xs)(hb:Below w.heap.size w w'):iL w' A n c xs:=⟨h.hn,h.hl,h.hc,h.hm,h.hA.below hb⟩
theorem iL.drewN{w:World}{A:Option Addr}{n c:Nat}{xs:List Int}(h:iL w A n c xs)(m:Nat):iL (w.drewN m) A n c xs:=⟨h.hn,h.hl,h.hc,h.hm,h.hA⟩
def i6(t:Int)(a b:List Int):Bool:=aC t a&&aC t b
theorem OO(t:Int)(A B:Option Addr)(na ca nb cb:Nat)(a b:List Int)(w:World)(ha:iL w A na ca a)(hb:iL w B nb cb b):
  Calls Tryz.prog 173 #[.int .i64 t,.slice A na ca,.slice B nb cb] w fun e w' =>e= .returned (.bool (i6 t a b))∧∃n,w' =w.drewN n:=by
 have HA:=zH ha
 have HB:=zH hb
 clear ha hb
 obtain⟨x,HX⟩:∃x,Hid (aC t a=x):=⟨_,rfl⟩
 obtain⟨y,HY⟩:∃y,Hid (aC t b=y):=⟨_,rfl⟩
 have HF:Hid (i6 t a b=(x&&y)):=by unfold Hid i6;rw[HX.out,HY.out]
 cases x
 ·go_enter Tryz.func173,Tryz.ntmps173
  go_wp2_with fail
  refine(fZ HX _ _ _ _ HA.out.hn HA.out.hl HA.out.hc HA.out.hm HA.out.hA).mono ?_
  rintro e w' ⟨rfl,m1,rfl⟩
  go_wp2_with fail
  go_ret
  exact⟨aM HF.out.symm,_,rfl⟩
 ·go_enter Tryz.func173,Tryz.ntmps173
  go_wp2_with fail
  refine(fZ HX _ _ _ _ HA.out.hn HA.out.hl HA.out.hc HA.out.hm HA.out.hA).mono ?_
  rintro e w' ⟨rfl,m2,rfl⟩
  go_wp2_with fail
  refine(fZ HY _ _ _ _ HB.out.hn HB.out.hl HB.out.hc HB.out.hm (by exact HB.out.hA)).mono ?_
  rintro e w' ⟨rfl,m3,rfl⟩
  go_wp2_with fail
  go_ret
  exact⟨aM (by rw[HF.out];rfl),_,rfl⟩
theorem iN{t:Int}{a b:List Int}{x:Bool}(h:Hid (i6 t a b=x)){A B:Option Addr}{na ca nb cb:Nat}{w:World}(ha:iL w A na ca a)(hb:iL w B nb cb b):
  Calls Tryz.prog 173 #[.int .i64 t,.slice A na ca,.slice B nb cb] w fun e w' =>e= .returned (.bool x)∧∃n,w' =w.drewN n:=
 (OO t A B na ca nb cb a b w ha hb).mono fun _ _ ⟨he,hw⟩=>⟨he.trans (aM h.out),hw⟩
theorem zM{t:Int}{a b:List Int}(h:i6 t a b=true):aC t a=true∧aC t b=true:=by unfold i6 at h;rwa [Bool.and_eq_true] at h
theorem uW{s:Int}{xs:List Int}{v:Bool}(h:Hid (aF s xs=v))(A:Option Addr)(n c:Nat)(w:World)(hn:n=xs.length)(hs:0≤s)(hs2:s<256)(hr:∀x∈xs,0≤x∧x<256)(hl:n≤1048576)(hA:cB .i64 w A xs):
  Calls Tryz.prog 143 #[.int .i64 s,.slice A n c] w fun e w' =>e= .returned (.bool v)∧w=w' :=
 (nJ s A n c xs w hn hs hs2 hr hl hA).mono fun _ _ ⟨he,hw⟩=>⟨he.trans (aM h.out),hw⟩
theorem wL{a b:List Int}{s x:Int}{k:Nat}(hx:Hid (a[k]? =some x)):dT (a.take (k+1)) b s=(dT (a.take k) b s&&aF (aQ s x) b):=by
 unfold dT;rw[gG hx,List.all_append];simp
theorem OP{a b:List Int}{s x:Int}{k:Nat}(hx:Hid (a[k]? =some x))(h:aF (aQ s x) b=false):dT a b s=false:=by
 unfold dT;rw[List.all_eq_false];exact⟨x,eG hx,by rw[h];simp⟩
theorem QB(s:Int)(A B:Option Addr)(na ca nb cb:Nat)(a b:List Int)(w:World)(hs:0≤s)(hs2:s<256)(ha:iL w A na ca a)(hb:iL w B nb cb b)(hra:∀x∈a,0≤x∧x<256)(hrb:∀x∈b,0≤x∧x<256):
  Calls Tryz.prog 176 #[.int .i64 s,.slice A na ca,.slice B nb cb] w fun e w' =>e= .returned (.bool (dT a b s))∧w=w' :=by
 have HA:=zH ha
 have HB:=zH hb
 have HRA:=zH hra
 have HRB:=zH hrb
 obtain rfl:=ha.hn
 have hla:=ha.hl
 clear ha hb hra hrb
 go_enter Tryz.func176,Tryz.ntmps176
 go_wp2
 go_loop [11] (fun i=>∃k:Nat,k≤a.length∧i= .int .i64 k∧Hid (dT (a.take k) b s=true)) (fun i=>a.length-(Go.RowKit.intOf i).toNat)
 case atStart=>exact⟨0,Nat.zero_le _,rfl,rfl⟩
 case round=>
  obtain⟨k,hk,rfl,hsofar⟩:=hrel
  by_cases hlt:k<a.length
  ·obtain⟨bb,off,x,rfl,hcell,hx,_⟩:=HA.out.hA.elem hlt
   obtain⟨he1,he2⟩:=HRA.out x (eG hx)
   have HBI:=zH (mM s x hs (by omega) he1 (by omega))
   have hand0:=aR s x
   have hand1:=lC s x hs
   rcases hw:aF (aQ s x) b with _|_
   ·have HW:=zH hw
    clear hw
    go_wp2_with fail
    rw[HBI.out]
    refine(uW HW _ _ _ _ HB.out.hn hand0 (by omega) HRB.out HB.out.hl HB.out.hA).mono ?_
    rintro e w' ⟨rfl,rfl⟩
    go_wp2_with fail
    go_ret
    exact⟨aM (by rw[OP hx HW.out]),rfl⟩
   ·have HW:=zH hw
    clear hw
    go_wp2_with fail
    rw[HBI.out]
    refine(uW HW _ _ _ _ HB.out.hn hand0 (by omega) HRB.out HB.out.hl HB.out.hA).mono ?_
    rintro e w' ⟨rfl,rfl⟩
    go_wp2_with fail
    go_round
    case rel=>exact⟨k+1,by omega,by go_num,by unfold Hid;rw[wL hx,hsofar.out,HW.out];rfl⟩
    case measure=>simp[Go.RowKit.intOf];omega
  ·obtain rfl:k=a.length:=by omega
   go_wp2
   go_ret
   exact⟨aM (by rw[←hsofar.out,List.take_length]),rfl⟩
theorem LW(A:Option Addr)(n c:Nat)(xs:List Int)(s:Int)(w:World)(hn:n=xs.length)(hs:0≤s)(hs2:s<256)(hr:∀x∈xs,0≤x∧x<256)(hl:n≤1048576)(hA:cB .i64 w A xs):
  Calls Tryz.prog 101 #[.slice A n c,.int .i64 s] w fun e w' =>e= .returned (.bool (aF s xs))∧∃n,w' =w.drewN n:=by
 subst hn
 have HA:=zH hA
 have HR:=zH hr
 clear hA hr
 go_enter Tryz.func101,Tryz.ntmps101
 go_wp2
 go_loopw [5] (fun i wr=>∃k:Nat,k≤xs.length∧i= .int .i64 k∧Hid (aF s (xs.take k)=false)∧∃n,wr=w.drewN n) (fun i _=>xs.length-(Go.RowKit.intOf i).toNat)
 case atStart=>exact⟨0,Nat.zero_le _,rfl,rfl,0,rfl⟩
 case round=>
  obtain⟨k,hk,rfl,hsofar,n,rfl⟩:=hrel
  by_cases hlt:k<xs.length
  ·obtain⟨b,off,x,rfl,hcell,hx,_⟩:=HA.out.elem hlt
   obtain⟨he1,he2⟩:=HR.out x (eG hx)
   rcases hw:aB s x with _|_
   ·have HW:=zH hw
    clear hw
    go_wp2_with fail
    refine(gC HW hs hs2 he1 he2 _).mono ?_
    rintro e w' ⟨rfl,m1,rfl⟩
    go_wp2_with fail
    go_roundw
    case rel=>exact⟨k+1,by omega,by go_num,by unfold Hid;rw[sY hx,hsofar.out,HW.out];rfl,_,rfl⟩
    case measure=>simp[Go.RowKit.intOf];omega
   ·have HW:=zH hw
    clear hw
    go_wp2_with fail
    refine(gC HW hs hs2 he1 he2 _).mono ?_
    rintro e w' ⟨rfl,m2,rfl⟩
    go_wp2_with fail
    go_ret
    exact⟨aM (by rw[uZ hx HW.out]),_,rfl⟩
  ·obtain rfl:k=xs.length:=by omega
   have HN:Hid (aF s xs=false):=by unfold Hid;rw[←hsofar.out,List.take_length]
   clear hsofar
   go_wp2
   go_ret
   exact⟨aM (by rw[HN.out]),_,rfl⟩
theorem uS{s:Int}{xs:List Int}{v:Bool}(h:Hid (aF s xs=v))(A:Option Addr)(n c:Nat)(w:World)(hn:n=xs.length)(hs:0≤s)(hs2:s<256)(hr:∀x∈xs,0≤x∧x<256)(hl:n≤1048576)(hA:cB .i64 w A xs):
  Calls Tryz.prog 101 #[.slice A n c,.int .i64 s] w fun e w' =>e= .returned (.bool v)∧∃n,w' =w.drewN n:=
 (LW A n c xs s w hn hs hs2 hr hl hA).mono fun _ _ ⟨he,hw⟩=>⟨he.trans (aM h.out),hw⟩
theorem aS.row{w:World}{base:Nat}{A:Option Addr}{n c:Nat}{xs:List Int}(h:aS w base (.slice A n c) xs)(hl:xs.length≤1048576):iL w A n c xs:=by
 obtain⟨A',c',e,hc,hm,hn,_⟩:=h.form
 simp only[Value.slice.injEq] at e
 obtain⟨rfl,rfl,rfl⟩:=e
 exact⟨rfl,hl,hc,hm,hn⟩
def fV(a b:List Int)(k j:Nat):List Int:=((a.take k).flatMap fun x=>b.map fun y=>aQ x y)++(match a[k]? with|some x=>(b.take j).map fun y=>aQ x y|none=>[])
theorem yH(a b:List Int):fV a b 0 0=[]:=by unfold fV;cases a[0]? <;>simp
theorem CY{a b:List Int}{k j:Nat}{x y:Int}(hx:Hid (a[k]? =some x))(hy:Hid (b[j]? =some y)):fV a b k (j+1)=fV a b k j++[aQ x y]:=by
 unfold fV;rw[hx.out];simp only[];rw[gG hy];simp
theorem BM{a b:List Int}{k:Nat}{x:Int}(hx:Hid (a[k]? =some x)):fV a b (k+1) 0=fV a b k b.length:=by
 unfold fV;rw[hx.out,gG hx];simp only[List.take_length,List.take_zero,List.map_nil]
 cases a[k+1]? <;>simp
theorem AM(a b:List Int):fV a b a.length 0=eU a b:=by
 unfold fV eU;rw[List.take_length];simp
theorem wI(a b:List Int):(eU a b).length=a.length*b.length:=by
 unfold eU
 induction a with
 |nil=>simp
 |cons x r ih=>rw[List.flatMap_cons,List.length_append,ih,List.length_map,List.length_cons,Nat.succ_mul];omega
theorem KL(a b:List Int)(k j:Nat)(hk:k≤a.length):(fV a b k j).length≤(k+1)*b.length:=by
 unfold fV
 rw[List.length_append]
 have h1:((a.take k).flatMap fun x=>b.map fun y=>aQ x y).length=k*b.length:=by
  have:=wI (a.take k) b
  unfold eU at this
  rw[this,List.length_take,Nat.min_eq_left hk]
 rw[h1,Nat.succ_mul]
 refine Nat.add_le_add_left ?_ _
 cases a[k]? with
 |none=>simp
 |some x=>simp only[List.length_map,List.length_take];omega
theorem wU{a b:List Int}(ha:a.length≤70)(hb:b.length≤70)(k j:Nat)(hk:k≤a.length):(fV a b k j).length≤4970:=
 Nat.le_trans (KL a b k j hk) (Nat.le_trans (Nat.mul_le_mul (show k+1≤71 by omega) hb) (by omega))
theorem yY{t:Int}{a b:List Int}(h:i6 t a b=false):gU t a b=[]:=by
 unfold i6 at h;unfold gU;rw[h];rfl
theorem PW{B:Nat}{a w w' :World}(h:Below B a w)(hg:w.grownBy w' none)(hB:B≤w.heap.size):Below B a w' :=
 h.grown hg hB (fun k e=>by cases e)
theorem H3(t:Int)(A B:Option Addr)(na ca nb cb:Nat)(a b:List Int)(w:World)(ha:iL w A na ca a)(hb:iL w B nb cb b):
  Calls Tryz.prog 156 #[.int .i64 t,.slice A na ca,.slice B nb cb] w fun e w' =>∃v,e= .returned v∧aS w' w.heap.size v (gU t a b)∧Below w.heap.size w w' :=by
 have HA:=zH ha
 have HB:=zH hb
 obtain rfl:=ha.hn
 obtain rfl:=hb.hn
 clear ha hb
 obtain⟨x,HX⟩:∃x,Hid (i6 t a b=x):=⟨_,rfl⟩
 cases x
 ·have HF:=zH (yY HX.out)
  go_enter Tryz.func156,Tryz.ntmps156
  go_wp2_with fail
  refine(iN HX HA.out HB.out).mono ?_
  rintro e w' ⟨rfl,m1,rfl⟩
  go_wp2_with fail
  go_ret
  exact⟨_,rfl,by rw[HF.out];exact aS.nil _ _,aE (Below.refl _ _) _⟩
 ·obtain⟨h1,h2⟩:=zM HX.out
  obtain⟨hla,hla2⟩:=dJ h1
  obtain⟨hlb,hlb2⟩:=dJ h2
  have HRA:=zH (dD h1)
  have HRB:=zH (dD h2)
  have HF:=zH (qY h1 h2)
  have HS:=zH (cV (jT (b:=b) h1))
  obtain⟨p,hp⟩:∃p,p=a.length*b.length:=⟨_,rfl⟩
  have hp2:p≤4900:=by rw[hp];exact Nat.le_trans (Nat.mul_le_mul hla2 hlb2) (by omega)
  have hp1:1≤p:=by rw[hp];exact Nat.mul_pos hla hlb
  have HP:Hid ((a.length:Int)*(b.length:Int)=(p:Int)):=by unfold Hid;rw[hp];push_cast;rfl
  have HP2:Hid ((eU a b).length=p):=by unfold Hid;rw[hp];exact wI a b
  obtain⟨i0,hi,hz0,hz1,hz2⟩:=info_parts pS
  clear hp h1 h2
  go_enter Tryz.func156,Tryz.ntmps156
  go_wp2_with fail
  refine(iN HX HA.out HB.out).mono ?_
  rintro e w' ⟨rfl,m2,rfl⟩
  go_wp2_with (at_make;refine wpList_make_own _ rfl _ _ 122 rfl w.heap.size 3 i0 (.int .i64 0) 1 Tryz.underlying122 hi hz0 hz1 .i64 .i64 _ p rfl rfl (by rw[HP.out];exact IntWalk.wrap64_in _ ⟨by omega,by omega⟩) (by rw[hz2];omega) (by unfold maxLen;omega) (Nat.le_refl _) ?_;intro w1 hown1 hgrow1)
  clear hi hz0 hz1 hz2 HP
  have HB1:Hid (Below w.heap.size w w1):=PW (w:=w.drewN m2) (aE (Below.refl _ _) _) hgrow1 (Nat.le_refl _)
  have HO1:Hid (aS w1 w.heap.size (.slice (some ⟨w.heap.size,0,none⟩) 0 p) []):=hown1
  clear hown1 hgrow1
  go_loopw [7,25] (fun v i wr=>∃k:Nat,k≤a.length∧i= .int .i64 k∧aS wr w.heap.size v (fV a b k 0)∧Below w.heap.size w wr) (fun _ i _=>a.length-(Go.RowKit.intOf i).toNat)
  case atStart=>exact⟨0,Nat.zero_le _,rfl,by rw[yH];exact HO1.out,HB1.out⟩
  case round=>
   obtain⟨k,hk,rfl,hown,hbel⟩:=hrel
   have HOW:=zH hown
   have HBW:=zH hbel
   clear hown hbel
   by_cases hlt:k<a.length
   ·obtain⟨bb,off,x,rfl,hcell,hx,_⟩:=(HA.out.hA.below HBW.out).elem hlt
    obtain⟨he1,he2⟩:=HRA.out x (eG hx)
    go_wp2_with fail
    clear hcell
    go_loopw [7,31] (fun v i wi=>∃j:Nat,j≤b.length∧i= .int .i64 j∧aS wi w.heap.size v (fV a b k j)∧Below w.heap.size w wi) (fun _ i _=>b.length-(Go.RowKit.intOf i).toNat)
    case atStart=>exact⟨0,Nat.zero_le _,rfl,HOW.out,HBW.out⟩
    case round=>
     obtain⟨j,hj,rfl,hown,hbel⟩:=hrel
     have HOI:=zH hown
     have HBI:=zH hbel
     clear hown hbel
     by_cases hjt:j<b.length
     ·obtain⟨bb2,off2,y,rfl,hcell,hy,_⟩:=(HB.out.hA.below HBI.out).elem hjt
      obtain⟨hf1,hf2⟩:=HRB.out y (eG hy)
      have HBA:=zH (mM x y he1 (by omega) hf1 (by omega))
      have HT:=zH (CY hx hy)
      have hsm:=wU hla2 hlb2 k j hk
      go_wp2_with (at_builtin;refine kB (W:=wr) rfl _ _ rfl w.heap.size u7 (fV a b k j) rfl HOI.out _ rfl (by omega) HBI.out.size ?_;intro v' w' hown' hgrow)
      have hb' :=gP HBI.out HBI.out.size HOI.out (Nat.le_refl _) hgrow
      rw[HBA.out] at hown'
      go_roundw
      case rel=>exact⟨j+1,by omega,by go_num,by rw[HT.out];exact hown',hb'⟩
      case measure=>simp[Go.RowKit.intOf];omega
     ·obtain rfl:j=b.length:=by omega
      have HT:=zH (BM (b:=b) hx)
      go_wp2_with fail
      go_roundw
      case rel=>exact⟨k+1,by omega,by go_num,by rw[HT.out];exact HOI.out,HBI.out⟩
      case measure=>simp[Go.RowKit.intOf];omega
   ·obtain rfl:k=a.length:=by omega
    have HE:Hid (fV a b a.length 0=eU a b):=AM a b
    rw[HE.out] at HOW
    obtain⟨A1,c1,rfl,hc1,hm1,hn1,_⟩:=HOW.out.form
    have HN1:=zH hn1
    have hpos:1≤(eU a b).length:=by rw[HP2.out];exact hp1
    have hle:(eU a b).length≤1048576:=by rw[HP2.out];omega
    clear hm1 hn1
    go_wp2_with fail
    refine(qE _ _ _ (eU a b) _ rfl hpos hle HS.out HN1.out).mono ?_
    rintro e w2 ⟨v,rfl,ho,hb⟩
    have HO2:=zH ho
    have HB2:=zH (aA HBW.out hb)
    have hsz:=HBW.out.size
    clear ho hb
    go_wp2_with fail
    go_ret
    exact⟨_,rfl,by rw[HF.out];exact HO2.out.base hsz,HB2.out⟩
theorem oW{W:World}{ops:Array Oper}{rest:List Oper}{o:Oper}{a:Act}{Q:Exit→Act→World→Prop}(hgd:o.guard=none)(s x:Operand)
  (ho:o.op= .call {callee:= .builtin .append,args:= #[s,x],argTypes:= #[122,122]}) (base:Nat) (v:Value) (xs:List Int) (hs:a.eval s=v) (hown:aS W base v xs)
  (ys:List Int) (ad:Option Addr) (m c:Nat) (hx:a.eval x= .slice ad m c) (hm:m=ys.length) (hpos:1≤m) (hn:cB .i64 W ad ys) (hl:xs.length+m≤1048576) (hb:base≤W.heap.size)
  (h:∀v' w',aS w' base v' (xs++ys)→W.grownBy w' v.ownBlock→wpList Tryz.prog ops Q rest (a.put o.dst v') w'):
  wpList Tryz.prog ops Q (o::rest) a W:=by
 subst hm
 obtain⟨i0,hi0,hz0,hz1,hz2⟩:=info_parts pS
 obtain⟨b,off,rfl,_,hc⟩:=hn hpos
 refine wpList_append_own _ hgd s x 122 ho base 3 i0 (.int .i64 0) 1 8 Tryz.underlying122 hi0 hz0 hz1 hz2 rfl (by decide) v xs.length (xs.map (Value.int .i64)) hs hown
  ⟨b,off,none⟩ ys.length c (ys.map (Value.int .i64)) hx (by simp) ?_ (fun u hu=> ?_) (by simp only[maxLen];omega) (by omega) hb ?_
 ·intro j u hj
  rw[List.getElem?_map] at hj
  obtain⟨y,hy,rfl⟩:=Option.map_eq_some_iff.1 hj
  obtain⟨hlt,he⟩:=List.getElem?_eq_some_iff.1 hy
  have:=hc j hlt
  have e:(⟨b,off,none⟩:Addr).add j=⟨b,off+j,none⟩:=by unfold Addr.add;split<;>simp_all
  rw[e,this,List.getD_eq_getElem?_getD,hy];rfl
 ·obtain⟨y,_,rfl⟩:=List.mem_map.1 hu;rfl
 ·intro v' w' h1 h2 _
  refine h v' w' ?_ h2
  unfold aS
  rw[List.map_append,List.length_append]
  exact h1
theorem oB{B:Nat}{a W w' :World}{base:Nat}{v:Value}{xs:List Int}(h:Below B a W)(hB:B≤W.heap.size)(hown:aS W base v xs)(hbase:B≤base)(hg:W.grownBy w' v.ownBlock):Below B a w' :=
 h.grown hg hB fun k e=>by have:=(World.ownsRow.lt hown k e).1;omega
theorem WO(m:Int)(n:Nat)(hmn:m=(n:Int))(w:World)(h1:1≤n)(hl:n≤1048576):
  Calls Tryz.prog 193 #[.slice none 0 0,.int .i64 m] w fun e w' =>∃v,e= .returned v∧aS w' w.heap.size v []∧Below w.heap.size w w' :=by
 subst hmn
 obtain⟨i0,hi,hz0,hz1,hz2⟩:=info_parts pS
 have happ:=Lib.run_append_nil_zeros (P:=Tryz.prog) w 122 3 122 3 i0 (.int .i64 0) .i64 .i64 Tryz.underlying122 Tryz.underlying3 hi hz0 n (by omega) (by omega) (by omega) (by rw[hz2];omega)
 obtain⟨cap,hcap⟩:∃c,c=grownCap w n 0 3:=⟨_,rfl⟩
 have hc1:n≤cap:=by rw[hcap];exact grownCap_ge _ _ _ _
 have hc2:cap≤maxLen:=by rw[hcap];exact grownCap_le_maxLen _ _ _ _ (by simp only[maxLen];omega)
 rw[←hcap] at happ
 obtain⟨M,hM⟩:∃M,M=Builtin.zeroCells (Value.int .i64 0).cells n++Builtin.zeroCells (Value.int .i64 0).cells (cap-n):=⟨_,rfl⟩
 have hMs:M.size=cap*1:=by rw[hM,Array.size_append,size_zeroCells,size_zeroCells];show n*1+(cap-n)*1=cap*1;omega
 rw[←hM] at happ
 have hown:Hid (aS ((w.drew).alloc (.cells M 3)) w.heap.size (.slice (some ⟨w.heap.size,0,none⟩) 0 cap) []):=World.ownsRow_made w.drew M cap (Nat.le_refl _) hc2 hMs
 have hbel:Hid (Below w.heap.size w ((w.drew).alloc (.cells M 3))):=(aE (Below.refl _ w) 1).alloc (Nat.le_refl _) _
 have HAPP:=zH happ
 have hc3:cap≤9223372036854775807:=by unfold maxLen at hc2;omega
 clear hM hMs hcap happ hi hz0 hz1 hz2 hc2
 go_enter Tryz.func193,Tryz.ntmps193
 go_wp2_with (at_builtin;refine Lib.wpList_append_run _ rfl _ _ _ _ rfl _ _ rfl rfl _ _ HAPP.out ?_)
 go_ret
 exact⟨_,rfl,hown.out,hbel.out⟩
theorem SZ(g:Nat)(A B:Option Addr)(na ca nb cb:Nat)(a b:List Int)(w:World)(hg:g<w.heap.size)(h0:w.cell? ⟨g,0,none⟩=some (.slice A na ca))(h1:w.cell? ⟨g,1,none⟩=some (.slice B nb cb))
  (ha:iL w A na ca a) (hb:iL w B nb cb b) (hla:1≤na) (hlb:1≤nb) (hl:na+nb≤1000000):
  Calls Tryz.prog 175 #[.slice (some ⟨g,0,none⟩) 2 2] w fun e w' =>∃v,e= .returned v∧aS w' w.heap.size v (a++b)∧Below w.heap.size w w' :=by
 have HA:=zH ha
 have HB:=zH hb
 obtain rfl:=ha.hn
 obtain rfl:=hb.hn
 clear ha hb
 have HG:=zH hg
 have HC:Hid (∀W,Below w.heap.size w W→W.cell? ⟨g,0,none⟩=some (.slice A a.length ca)∧W.cell? ⟨g,1,none⟩=some (.slice B b.length cb)):=fun W h=>⟨(h.cell (p:=⟨g,0,none⟩) hg).trans h0,(h.cell (p:=⟨g,1,none⟩) hg).trans h1⟩
 go_enter Tryz.func175,Tryz.ntmps175
 go_wp2_with fail
 refine wp_loop_rounds 3 ?_
 rw[rounds_succ]
 go_wp2_with fail
 rw[rounds_succ]
 go_wp2_with fail
 rw[rounds_succ]
 go_wp2_with fail
 refine(WO _ (a.length+b.length) (by omega) _ (by omega) (by omega)).mono ?_
 rintro e w1 ⟨v,rfl,ho,hb⟩
 have HO1:=zH ho
 have HB1:=zH hb
 have hsz1:=hb.size
 obtain⟨hc0,hc1⟩:=HC.out _ hb
 have HN1:=zH (HA.out.hA.below hb)
 clear ho hb
 go_wp2_with fail
 refine wp_loop_rounds 3 ?_
 rw[rounds_succ]
 go_wp2_with (at_builtin;refine oW rfl _ _ rfl w.heap.size _ [] rfl HO1.out a A a.length ca rfl rfl hla HN1.out (by simp;omega) (by omega) ?_;intro v2 w2 hown2 hgrow2)
 have HO2:=zH hown2
 have HB2:=zH (oB HB1.out hsz1 HO1.out (Nat.le_refl _) hgrow2)
 clear hown2 hgrow2 hc0 hc1
 rw[rounds_succ]
 obtain⟨hc0,hc1⟩:=HC.out _ HB2.out
 have HN2:=zH (HB.out.hA.below HB2.out)
 have hsz2:=HB2.out.size
 go_wp2_with (at_builtin;refine oW rfl _ _ rfl w.heap.size v2 a rfl HO2.out b B b.length cb rfl rfl hlb HN2.out (by omega) (by omega) ?_;intro v3 w3 hown3 hgrow3)
 have HO3:=zH hown3
 have HB3:=zH (oB HB2.out hsz2 HO2.out (Nat.le_refl _) hgrow3)
 rw[rounds_succ]
 go_wp2_with fail
 go_ret
 exact⟨_,rfl,HO3.out,HB3.out⟩
end Go.Proofs.YtfhjcacfchkdpaaGreatDoor

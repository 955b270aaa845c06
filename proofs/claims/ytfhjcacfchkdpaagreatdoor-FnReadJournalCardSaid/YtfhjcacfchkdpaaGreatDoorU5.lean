/-
  What the proofs of this seat's statements share (TogL, TogS, TogT).
-/
import Derived.WalkSmall
import Derived.Deep.AppendLies
import Derived.Deep.RegionLaw
import Derived.Test.YtfhjcacfchkdpaaGreatDoorU4
set_option maxRecDepth 100000
set_option maxHeartbeats 32000000
namespace Go.Proofs.YtfhjcacfchkdpaaGreatDoor
open Go.RowKit
theorem tS{t:Int}{a b:List Int}(h:i6 t a b=false):fB t a b=[]:=by
 unfold i6 at h;unfold fB;rw[h];rfl
theorem GP{t:Int}{a b:List Int}(h:i6 t a b=false):nP t a b=[]:=by
 unfold i6 at h;unfold nP;rw[h];rfl
theorem BR{t:Int}{a:List Int}(h:aC t a=false):iW t a=[]:=by unfold iW;rw[h];rfl
theorem yL{t:Int}{a:List Int}:dQ t a=fB t a (iW t a):=by
 unfold dQ
 cases h:aC t a
 ·unfold fB;rw[h];rfl
 ·rfl
theorem C8(w:World)(u v:Value)(t:TypeId):(w.alloc (.cells #[u,v] t)).cell? ⟨w.heap.size,0,none⟩=some u∧(w.alloc (.cells #[u,v] t)).cell? ⟨w.heap.size,1,none⟩=some v:=
 ⟨cell_two_new w u v t 0 u rfl,cell_two_new w u v t 1 v rfl⟩
theorem vY(t:Int)(A B:Option Addr)(na ca nb cb:Nat)(a b:List Int)(w:World)(ha:iL w A na ca a)(hb:iL w B nb cb b):
  Calls Tryz.prog 157 #[.int .i64 t,.slice A na ca,.slice B nb cb] w fun e w' =>∃v,e= .returned v∧aS w' w.heap.size v (fB t a b)∧Below w.heap.size w w' :=by
 have HA:=zH ha
 have HB:=zH hb
 obtain rfl:=ha.hn
 obtain rfl:=hb.hn
 clear ha hb
 obtain⟨x,HX⟩:∃x,Hid (i6 t a b=x):=⟨_,rfl⟩
 cases x
 ·have HF:=zH (tS HX.out)
  go_enter Tryz.func157,Tryz.ntmps157
  go_wp2_with fail
  refine(iN HX HA.out HB.out).mono ?_
  rintro e w' ⟨rfl,m1,rfl⟩
  go_wp2_with fail
  go_ret
  exact⟨_,rfl,by rw[HF.out];exact aS.nil _ _,aE (Below.refl _ _) _⟩
 ·obtain⟨h1,h2⟩:=zM HX.out
  obtain⟨hla,hla2⟩:=dJ h1
  obtain⟨hlb,hlb2⟩:=dJ h2
  have HF:=zH (p7 h1 h2)
  have HS:=zH (cV (mX h1 h2))
  clear h1 h2
  obtain⟨ab,HAB⟩:∃l,Hid (a++b=l):=⟨_,rfl⟩
  have hpos:1≤ab.length:=by rw[←HAB.out,List.length_append];omega
  have hle:ab.length≤1048576:=by rw[←HAB.out,List.length_append];omega
  rw[HAB.out] at HF HS
  go_enter Tryz.func157,Tryz.ntmps157
  go_wp2_with fail
  refine(iN HX HA.out HB.out).mono ?_
  rintro e w' ⟨rfl,m2,rfl⟩
  go_wp2_with fail
  have hbel:∀o,Below w.heap.size w ((w.drewN m2).alloc o):=fun o=>(aE (Below.refl _ _) _).alloc (Nat.le_refl _) _
  refine(SZ w.heap.size A B a.length ca b.length cb a b _ (by rw[World.size_alloc];exact Nat.lt_succ_self _) (C8 (w.drewN m2) _ _ _).1 (C8 (w.drewN m2) _ _ _).2 (HA.out.below (hbel _)) (HB.out.below (hbel _)) hla hlb (by omega)).mono ?_
  rintro e w1 ⟨v,rfl,ho,hb⟩
  rw[HAB.out] at ho
  obtain⟨A1,c1,rfl,hc1,hm1,hn1,_⟩:=ho.form
  have HN1:=zH hn1
  have HB1:=zH (hbel _ |>.trans (hb.mono (by rw[World.size_alloc];exact Nat.le_succ _)))
  have hsz1:=HB1.out.size
  clear ho hb hm1 hn1 hbel
  go_wp2_with fail
  refine(qE _ _ _ ab _ rfl hpos hle HS.out HN1.out).mono ?_
  rintro e w2 ⟨v,rfl,ho,hb⟩
  have HO2:=zH ho
  have HB2:=zH (aA HB1.out hb)
  clear ho hb
  go_wp2_with fail
  go_ret
  exact⟨_,rfl,by rw[HF.out];exact HO2.out.base hsz1,HB2.out⟩
theorem oK(a b:List Int)(k:Nat):dY a b (k+1)=dY a b k++(if dT a b k=true then[(k:Int)] else[]):=by
 unfold dY
 rw[List.range_succ,List.map_append,List.filter_append]
 simp only[List.map_cons,List.map_nil,List.filter_cons,List.filter_nil]
theorem qF(a b:List Int)(k:Nat):(dY a b k).length≤k:=by
 unfold dY
 refine Nat.le_trans (List.length_filter_le _ _) (by simp)
theorem xG(a b:List Int):dY a b 0=[]:=rfl
theorem Q4{t:Int}{a b:List Int}(_:aC t a=true)(hb:aC t b=true):1≤(dY a b (aJ t+1).toNat).length:=by
 refine List.length_pos_of_mem (a:=0) (rM.2 ⟨by omega,by have:=bH t;omega,CZ hb⟩)
theorem lZ{s:Int}{a b:List Int}{v:Bool}(h:Hid (dT a b s=v))(A B:Option Addr)(na ca nb cb:Nat)(w:World)(hs:0≤s)(hs2:s<256)(ha:iL w A na ca a)(hb:iL w B nb cb b)(hra:∀x∈a,0≤x∧x<256)(hrb:∀x∈b,0≤x∧x<256):
  Calls Tryz.prog 176 #[.int .i64 s,.slice A na ca,.slice B nb cb] w fun e w' =>e= .returned (.bool v)∧w=w' :=
 (QB s A B na ca nb cb a b w hs hs2 ha hb hra hrb).mono fun _ _ ⟨he,hw⟩=>⟨he.trans (aM h.out),hw⟩
theorem P4(t:Int)(A B:Option Addr)(na ca nb cb:Nat)(a b:List Int)(w:World)(ha:iL w A na ca a)(hb:iL w B nb cb b):
  Calls Tryz.prog 158 #[.int .i64 t,.slice A na ca,.slice B nb cb] w fun e w' =>∃v,e= .returned v∧aS w' w.heap.size v (nP t a b)∧Below w.heap.size w w' :=by
 have HA:=zH ha
 have HB:=zH hb
 obtain rfl:=ha.hn
 obtain rfl:=hb.hn
 clear ha hb
 obtain⟨x,HX⟩:∃x,Hid (i6 t a b=x):=⟨_,rfl⟩
 cases x
 ·have HF:=zH (GP HX.out)
  go_enter Tryz.func158,Tryz.ntmps158
  go_wp2_with fail
  refine(iN HX HA.out HB.out).mono ?_
  rintro e w' ⟨rfl,m1,rfl⟩
  go_wp2_with fail
  go_ret
  exact⟨_,rfl,by rw[HF.out];exact aS.nil _ _,aE (Below.refl _ _) _⟩
 ·obtain⟨h1,h2⟩:=zM HX.out
  have HRA:=zH (dD h1)
  have HRB:=zH (dD h2)
  have HF:=zH (ED h1 h2)
  have HS:=zH (cV (uG (b:=b) h1))
  have hpos:=Q4 h1 h2
  obtain⟨ht1,ht3⟩:=cN h1
  have ht:t=1∨t=2∨t=3:=by omega
  clear h1 h2 ht1 ht3
  rcases ht with rfl|rfl|rfl
  ·have HAL:Hid ((aJ 1+1).toNat=4):=rfl
   rw[HAL.out] at HF HS hpos
   go_enter Tryz.func158,Tryz.ntmps158
   go_wp2_with fail
   refine(iN HX HA.out HB.out).mono ?_
   rintro e w' ⟨rfl,m2,rfl⟩
   go_wp2_with fail
   refine(eE _ _).mono ?_
   rintro e w' ⟨rfl,rfl⟩
   simp only[eP]
   go_wp2_with fail
   go_loopw [7,17] (fun v i wr=>∃k:Nat,k≤4∧i= .int .i64 k∧aS wr w.heap.size v (dY a b k)∧Below w.heap.size w wr) (fun _ i _=>4-(Go.RowKit.intOf i).toNat)
   case atStart=>exact⟨0,by omega,rfl,by rw[xG];exact aS.nil _ _,aE (Below.refl _ _) _⟩
   case round=>
    obtain⟨k,hk,rfl,hown,hbel⟩:=hrel
    have HOW:=zH hown
    have HBW:=zH hbel
    clear hown hbel
    by_cases hlt:k<4
    ·have hkl:=qF a b k
     rcases hg:dT a b (k:Int) with _|_
     ·have HG:=zH hg
      have HT:Hid (dY a b (k+1)=dY a b k):=by unfold Hid;rw[oK,hg];simp
      clear hg
      go_wp2_with fail
      refine(lZ HG _ _ _ _ _ _ _ (by omega) (by omega) (HA.out.below HBW.out) (HB.out.below HBW.out) HRA.out HRB.out).mono ?_
      rintro e w' ⟨rfl,rfl⟩
      go_wp2_with fail
      go_roundw
      case rel=>exact⟨k+1,by omega,by go_num,by rw[HT.out];exact HOW.out,HBW.out⟩
      case measure=>simp[Go.RowKit.intOf];omega
     ·have HG:=zH hg
      have HT:Hid (dY a b (k+1)=dY a b k++[(k:Int)]):=by unfold Hid;rw[oK,hg];simp
      clear hg
      go_wp2_with fail
      refine(lZ HG _ _ _ _ _ _ _ (by omega) (by omega) (HA.out.below HBW.out) (HB.out.below HBW.out) HRA.out HRB.out).mono ?_
      rintro e w' ⟨rfl,rfl⟩
      go_wp2_with (at_builtin;refine kB (W:=wr) rfl _ _ rfl w.heap.size u7 (dY a b k) rfl HOW.out (k:Int) rfl (by omega) HBW.out.size ?_;intro v' w' hown' hgrow)
      have hb' :=gP HBW.out HBW.out.size HOW.out (Nat.le_refl _) hgrow
      go_roundw
      case rel=>exact⟨k+1,by omega,by go_num,by rw[HT.out];exact hown',hb'⟩
      case measure=>simp[Go.RowKit.intOf];omega
    ·obtain rfl:k=4:=by omega
     have hle:=qF a b 4
     obtain⟨A1,c1,rfl,hc1,hm1,hn1,_⟩:=HOW.out.form
     have HN1:=zH hn1
     clear hm1 hn1
     go_wp2_with fail
     refine(qE _ _ _ (dY a b 4) _ rfl hpos (by omega) HS.out HN1.out).mono ?_
     rintro e w2 ⟨v,rfl,ho,hb⟩
     have HO2:=zH ho
     have HB2:=zH (aA HBW.out hb)
     have hsz:=HBW.out.size
     clear ho hb
     go_wp2_with fail
     go_ret
     exact⟨_,rfl,by rw[HF.out];exact HO2.out.base hsz,HB2.out⟩
  ·have HAL:Hid ((aJ 2+1).toNat=16):=rfl
   rw[HAL.out] at HF HS hpos
   go_enter Tryz.func158,Tryz.ntmps158
   go_wp2_with fail
   refine(iN HX HA.out HB.out).mono ?_
   rintro e w' ⟨rfl,m3,rfl⟩
   go_wp2_with fail
   refine(eE _ _).mono ?_
   rintro e w' ⟨rfl,rfl⟩
   simp only[eP]
   go_wp2_with fail
   go_loopw [7,17] (fun v i wr=>∃k:Nat,k≤16∧i= .int .i64 k∧aS wr w.heap.size v (dY a b k)∧Below w.heap.size w wr) (fun _ i _=>16-(Go.RowKit.intOf i).toNat)
   case atStart=>exact⟨0,by omega,rfl,by rw[xG];exact aS.nil _ _,aE (Below.refl _ _) _⟩
   case round=>
    obtain⟨k,hk,rfl,hown,hbel⟩:=hrel
    have HOW:=zH hown
    have HBW:=zH hbel
    clear hown hbel
    by_cases hlt:k<16
    ·have hkl:=qF a b k
     rcases hg:dT a b (k:Int) with _|_
     ·have HG:=zH hg
      have HT:Hid (dY a b (k+1)=dY a b k):=by unfold Hid;rw[oK,hg];simp
      clear hg
      go_wp2_with fail
      refine(lZ HG _ _ _ _ _ _ _ (by omega) (by omega) (HA.out.below HBW.out) (HB.out.below HBW.out) HRA.out HRB.out).mono ?_
      rintro e w' ⟨rfl,rfl⟩
      go_wp2_with fail
      go_roundw
      case rel=>exact⟨k+1,by omega,by go_num,by rw[HT.out];exact HOW.out,HBW.out⟩
      case measure=>simp[Go.RowKit.intOf];omega
     ·have HG:=zH hg
      have HT:Hid (dY a b (k+1)=dY a b k++[(k:Int)]):=by unfold Hid;rw[oK,hg];simp
      clear hg
      go_wp2_with fail
      refine(lZ HG _ _ _ _ _ _ _ (by omega) (by omega) (HA.out.below HBW.out) (HB.out.below HBW.out) HRA.out HRB.out).mono ?_
      rintro e w' ⟨rfl,rfl⟩
      go_wp2_with (at_builtin;refine kB (W:=wr) rfl _ _ rfl w.heap.size u7 (dY a b k) rfl HOW.out (k:Int) rfl (by omega) HBW.out.size ?_;intro v' w' hown' hgrow)
      have hb' :=gP HBW.out HBW.out.size HOW.out (Nat.le_refl _) hgrow
      go_roundw
      case rel=>exact⟨k+1,by omega,by go_num,by rw[HT.out];exact hown',hb'⟩
      case measure=>simp[Go.RowKit.intOf];omega
    ·obtain rfl:k=16:=by omega
     have hle:=qF a b 16
     obtain⟨A1,c1,rfl,hc1,hm1,hn1,_⟩:=HOW.out.form
     have HN1:=zH hn1
     clear hm1 hn1
     go_wp2_with fail
     refine(qE _ _ _ (dY a b 16) _ rfl hpos (by omega) HS.out HN1.out).mono ?_
     rintro e w2 ⟨v,rfl,ho,hb⟩
     have HO2:=zH ho
     have HB2:=zH (aA HBW.out hb)
     have hsz:=HBW.out.size
     clear ho hb
     go_wp2_with fail
     go_ret
     exact⟨_,rfl,by rw[HF.out];exact HO2.out.base hsz,HB2.out⟩
  ·have HAL:Hid ((aJ 3+1).toNat=256):=rfl
   rw[HAL.out] at HF HS hpos
   go_enter Tryz.func158,Tryz.ntmps158
   go_wp2_with fail
   refine(iN HX HA.out HB.out).mono ?_
   rintro e w' ⟨rfl,m4,rfl⟩
   go_wp2_with fail
   refine(eE _ _).mono ?_
   rintro e w' ⟨rfl,rfl⟩
   simp only[eP]
   go_wp2_with fail
   go_loopw [7,17] (fun v i wr=>∃k:Nat,k≤256∧i= .int .i64 k∧aS wr w.heap.size v (dY a b k)∧Below w.heap.size w wr) (fun _ i _=>256-(Go.RowKit.intOf i).toNat)
   case atStart=>exact⟨0,by omega,rfl,by rw[xG];exact aS.nil _ _,aE (Below.refl _ _) _⟩
   case round=>
    obtain⟨k,hk,rfl,hown,hbel⟩:=hrel
    have HOW:=zH hown
    have HBW:=zH hbel
    clear hown hbel
    by_cases hlt:k<256
    ·have hkl:=qF a b k
     rcases hg:dT a b (k:Int) with _|_
     ·have HG:=zH hg
      have HT:Hid (dY a b (k+1)=dY a b k):=by unfold Hid;rw[oK,hg];simp
      clear hg
      go_wp2_with fail
      refine(lZ HG _ _ _ _ _ _ _ (by omega) (by omega) (HA.out.below HBW.out) (HB.out.below HBW.out) HRA.out HRB.out).mono ?_
      rintro e w' ⟨rfl,rfl⟩
      go_wp2_with fail
      go_roundw
      case rel=>exact⟨k+1,by omega,by go_num,by rw[HT.out];exact HOW.out,HBW.out⟩
      case measure=>simp[Go.RowKit.intOf];omega
     ·have HG:=zH hg
      have HT:Hid (dY a b (k+1)=dY a b k++[(k:Int)]):=by unfold Hid;rw[oK,hg];simp
      clear hg
      go_wp2_with fail
      refine(lZ HG _ _ _ _ _ _ _ (by omega) (by omega) (HA.out.below HBW.out) (HB.out.below HBW.out) HRA.out HRB.out).mono ?_
      rintro e w' ⟨rfl,rfl⟩
      go_wp2_with (at_builtin;refine kB (W:=wr) rfl _ _ rfl w.heap.size u7 (dY a b k) rfl HOW.out (k:Int) rfl (by omega) HBW.out.size ?_;intro v' w' hown' hgrow)
      have hb' :=gP HBW.out HBW.out.size HOW.out (Nat.le_refl _) hgrow
      go_roundw
      case rel=>exact⟨k+1,by omega,by go_num,by rw[HT.out];exact hown',hb'⟩
      case measure=>simp[Go.RowKit.intOf];omega
    ·obtain rfl:k=256:=by omega
     have hle:=qF a b 256
     obtain⟨A1,c1,rfl,hc1,hm1,hn1,_⟩:=HOW.out.form
     have HN1:=zH hn1
     clear hm1 hn1
     go_wp2_with fail
     refine(qE _ _ _ (dY a b 256) _ rfl hpos (by omega) HS.out HN1.out).mono ?_
     rintro e w2 ⟨v,rfl,ho,hb⟩
     have HO2:=zH ho
     have HB2:=zH (aA HBW.out hb)
     have hsz:=HBW.out.size
     clear ho hb
     go_wp2_with fail
     go_ret
     exact⟨_,rfl,by rw[HF.out];exact HO2.out.base hsz,HB2.out⟩
theorem sG{n:Nat}{g:Int}(hn:n≤8)(h0:0≤g)(h1:g≤((2^n:Nat):Int)-1):bits .andNot .i64 (((2^n:Nat):Int)-1) g=((2^n:Nat):Int)-1-g:=by
 obtain⟨b,rfl⟩:∃b:Nat,g=b:=⟨g.toNat,by omega⟩
 have hp:0<2^n:=Nat.two_pow_pos n
 have hp8:2^n≤2^8:=Nat.pow_le_pow_right (by omega) hn
 have e0:((2^n:Nat):Int)-1=((2^n-1:Nat):Int):=by omega
 rw[e0]
 have e:bits .andNot .i64 ((2^n-1:Nat):Int) (b:Int)=(((2^n-1) &&& (2^64-(b+1)):Nat):Int):=by
  have hx:(2^n-1) &&& (2^64-(b+1))≤2^n-1:=Nat.and_le_left
  show IntKind.i64.wrap ((BitVec.ofInt 64 ((2^n-1:Nat):Int) &&& ~~~BitVec.ofInt 64 (b:Int)).toNat:Int)=_
  rw[BitVec.toNat_and,BitVec.toNat_not,BitVec.ofInt_natCast,BitVec.ofInt_natCast,BitVec.toNat_ofNat,BitVec.toNat_ofNat,Nat.mod_eq_of_lt (by omega),Nat.mod_eq_of_lt (by omega),IntKind.wrap_i64,
   show 2^64-1-b=2^64-(b+1) by omega]
  omega
 have hb:b<2^n:=by omega
 have:(2^n-1) &&& (2^64-(b+1))=2^n-(b+1):=by
  apply Nat.eq_of_testBit_eq
  intro i
  rw[Nat.testBit_and,Nat.testBit_two_pow_sub_succ (show b<2^64 by omega),Nat.testBit_two_pow_sub_succ hb,Nat.testBit_two_pow_sub_one]
  by_cases hi:i<n
  ·simp[hi,show i<64 by omega]
  ·simp[hi]
 rw[e,this];omega
theorem NB{t:Int}{a:List Int}(ha:aC t a=true):fK t (aJ t-aV a)=iW t a:=by
 unfold fK;rw[CJ ha,lB ha];rfl
theorem qI{t:Int}{xs:List Int}{g:Int}(h:Hid (iC t xs=g))(A:Option Addr)(nn c:Nat)(w:World)(ha:iL w A nn c xs):
  Calls Tryz.prog 120 #[.int .i64 t,.slice A nn c] w fun e w' =>e= .returned (.int .i64 g)∧∃n,w' =w.drewN n:=
 (zY t A nn c xs w ha.hn ha.hl ha.hc ha.hm ha.hA).mono fun _ _ ⟨he,hw⟩=>⟨he.trans (jR h.out),hw⟩
theorem AB{t:Int}{xs:List Int}(h:aC t xs=true):iC t xs=aV xs:=by unfold iC;rw[h];rfl
theorem C5(t:Int)(A:Option Addr)(na ca:Nat)(a:List Int)(w:World)(ha:iL w A na ca a):
  Calls Tryz.prog 154 #[.int .i64 t,.slice A na ca] w fun e w' =>∃v,e= .returned v∧aS w' w.heap.size v (iW t a)∧Below w.heap.size w w' :=by
 have HA:=zH ha
 obtain rfl:=ha.hn
 clear ha
 obtain⟨x,HX⟩:∃x,Hid (aC t a=x):=⟨_,rfl⟩
 cases x
 ·have HF:=zH (BR HX.out)
  go_enter Tryz.func154,Tryz.ntmps154
  go_wp2_with fail
  refine(fZ HX _ _ _ _ rfl HA.out.hl HA.out.hc HA.out.hm HA.out.hA).mono ?_
  rintro e w' ⟨rfl,m1,rfl⟩
  go_wp2_with fail
  go_ret
  exact⟨_,rfl,by rw[HF.out];exact aS.nil _ _,aE (Below.refl _ _) _⟩
 ·obtain⟨ht1,ht3⟩:=cN HX.out
  have HG:=zH (AB HX.out)
  have hu:=iQ HX.out
  have HS:=zH (NB HX.out)
  obtain⟨g,hg⟩:∃g,g=aV a:=⟨_,rfl⟩
  rw[←hg] at HG HS hu
  have ht:t=1∨t=2∨t=3:=by omega
  clear ht1 ht3 hg
  obtain⟨hu0,hu1⟩:=hu
  rcases ht with rfl|rfl|rfl
  ·have HBN:Hid (bits .andNot .i64 3 g=3-g):=sG (n:=2) (by omega) hu0 hu1
   have HS2:Hid (fK 1 (3-g)=iW 1 a):=HS.out
   clear hu1
   go_enter Tryz.func154,Tryz.ntmps154
   go_wp2_with fail
   refine(fZ HX _ _ _ _ rfl HA.out.hl HA.out.hc HA.out.hm HA.out.hA).mono ?_
   rintro e w' ⟨rfl,m2,rfl⟩
   go_wp2_with fail
   refine(eE _ _).mono ?_
   rintro e w' ⟨rfl,rfl⟩
   simp only[eP]
   go_wp2_with fail
   refine(qI HG _ _ _ _ (HA.out.drewN _)).mono ?_
   rintro e w' ⟨rfl,m3,rfl⟩
   go_wp2_with fail
   rw[HBN.out]
   refine(pD _ _ _).mono ?_
   rintro e w1 ⟨v,rfl,ho,hb⟩
   rw[HS2.out] at ho
   have HO1:=zH ho
   have HB1:=zH (aA (aE (Below.refl _ _) _) hb)
   clear ho hb
   go_wp2_with fail
   go_ret
   exact⟨_,rfl,HO1.out,HB1.out⟩
  ·have HBN:Hid (bits .andNot .i64 15 g=15-g):=sG (n:=4) (by omega) hu0 hu1
   have HS2:Hid (fK 2 (15-g)=iW 2 a):=HS.out
   clear hu1
   go_enter Tryz.func154,Tryz.ntmps154
   go_wp2_with fail
   refine(fZ HX _ _ _ _ rfl HA.out.hl HA.out.hc HA.out.hm HA.out.hA).mono ?_
   rintro e w' ⟨rfl,m4,rfl⟩
   go_wp2_with fail
   refine(eE _ _).mono ?_
   rintro e w' ⟨rfl,rfl⟩
   simp only[eP]
   go_wp2_with fail
   refine(qI HG _ _ _ _ (HA.out.drewN _)).mono ?_
   rintro e w' ⟨rfl,m5,rfl⟩
   go_wp2_with fail
   rw[HBN.out]
   refine(pD _ _ _).mono ?_
   rintro e w1 ⟨v,rfl,ho,hb⟩
   rw[HS2.out] at ho
   have HO1:=zH ho
   have HB1:=zH (aA (aE (Below.refl _ _) _) hb)
   clear ho hb
   go_wp2_with fail
   go_ret
   exact⟨_,rfl,HO1.out,HB1.out⟩
  ·have HBN:Hid (bits .andNot .i64 255 g=255-g):=sG (n:=8) (by omega) hu0 hu1
   have HS2:Hid (fK 3 (255-g)=iW 3 a):=HS.out
   clear hu1
   go_enter Tryz.func154,Tryz.ntmps154
   go_wp2_with fail
   refine(fZ HX _ _ _ _ rfl HA.out.hl HA.out.hc HA.out.hm HA.out.hA).mono ?_
   rintro e w' ⟨rfl,m6,rfl⟩
   go_wp2_with fail
   refine(eE _ _).mono ?_
   rintro e w' ⟨rfl,rfl⟩
   simp only[eP]
   go_wp2_with fail
   refine(qI HG _ _ _ _ (HA.out.drewN _)).mono ?_
   rintro e w' ⟨rfl,m7,rfl⟩
   go_wp2_with fail
   rw[HBN.out]
   refine(pD _ _ _).mono ?_
   rintro e w1 ⟨v,rfl,ho,hb⟩
   rw[HS2.out] at ho
   have HO1:=zH ho
   have HB1:=zH (aA (aE (Below.refl _ _) _) hb)
   clear ho hb
   go_wp2_with fail
   go_ret
   exact⟨_,rfl,HO1.out,HB1.out⟩
theorem JM(t:Int)(a:List Int):(iW t a).length≤70:=by
 cases h:aC t a
 ·rw[BR h];simp
 ·rw[lB h];simp
theorem EB(t:Int)(A:Option Addr)(na ca:Nat)(a:List Int)(w:World)(ha:iL w A na ca a):
  Calls Tryz.prog 155 #[.int .i64 t,.slice A na ca] w fun e w' =>∃v,e= .returned v∧aS w' w.heap.size v (dQ t a)∧Below w.heap.size w w' :=by
 have HA:=zH ha
 obtain rfl:=ha.hn
 have hnl:=JM t a
 have HW:=zH (yL (t:=t) (a:=a))
 clear ha
 go_enter Tryz.func155,Tryz.ntmps155
 go_wp2_with fail
 refine(C5 t A _ ca a _ HA.out).mono ?_
 rintro e w1 ⟨v,rfl,ho,hb⟩
 obtain⟨A1,c1,rfl,hc1,hm1,hn1,_⟩:=ho.form
 have HR1:=zH (ho.row (by omega))
 have HB1:=zH hb
 have hsz1:=hb.size
 clear ho hb hm1 hn1
 go_wp2_with fail
 refine(vY t A _ _ _ _ _ a (iW t a) _ (HA.out.below HB1.out) HR1.out).mono ?_
 rintro e w2 ⟨v,rfl,ho,hb⟩
 have HO2:=zH ho
 have HB2:=zH (aA HB1.out hb)
 clear ho hb
 go_wp2_with fail
 go_ret
 exact⟨_,rfl,by rw[HW.out];exact HO2.out.base hsz1,HB2.out⟩
theorem EK{W:World}{ops:Array Oper}{o:Oper}{a:Act}{K:Act→World→Prop}{Q:Exit→Act→World→Prop}{E:Prop}(hgd:o.guard=none)(s x:Operand)
  (ho:o.op= .call {callee:= .builtin .append,args:= #[s,x],argTypes:= #[122,122]}) (base:Nat) (v:Value) (xs:List Int) (hs:a.eval s=v) (hown:aS W base v xs)
  (y:Int) (hx:a.eval x= .slice (some ⟨W.heap.size,0,none⟩) 1 1) (hl:xs.length≤1048576) (hb:base≤W.heap.size)
  (h:∀v' w',aS w' base v' (xs++[y])→(W.alloc (.cells #[.int .i64 y] 3)).grownBy w' v.ownBlock→K (a.put o.dst v') w'):
  if Region.wanted o (yielded ops a.tmps)=true then Oper.wp Tryz.prog o a (W.alloc (.cells #[.int .i64 y] 3)) K Q else E:=by
 have hw:Region.wanted o (yielded ops a.tmps)=true:=by simp[Region.wanted,hgd]
 rw[if_pos hw]
 obtain⟨i0,hi0,hz0,hz1,hz2⟩:=info_parts pS
 refine wp_append_own _ s x 122 ho base 3 i0 (.int .i64 0) 1 8 Tryz.underlying122 hi0 hz0 hz1 hz2 rfl (by decide) v xs.length (xs.map (Value.int .i64)) hs (World.ownsRow.alloc hown _)
  ⟨W.heap.size,0,none⟩ 1 1 [.int .i64 y] hx rfl (cell_one_new _ _ _) (fun u hu=>by rw[List.mem_singleton] at hu;subst hu;rfl) (by simp only[maxLen];omega) (by omega) (by rw[World.size_alloc];omega) ?_
 intro v' w' h1 h2 _
 refine h v' w' ?_ h2
 unfold aS
 simpa using h1
theorem y7{t:Int}{a b:List Int}{y:Bool}(h1:Hid (aC t a=true))(h2:Hid (aC t b=y)):i6 t a b=y:=by unfold i6;rw[h1.out,h2.out];rfl
theorem xA{t:Int}{a b:List Int}(h1:Hid (aC t a=false)):i6 t a b=false:=by unfold i6;rw[h1.out];rfl
theorem IH(t:Int)(A B:Option Addr)(na ca nb cb:Nat)(a b:List Int)(w:World)(ha:iL w A na ca a)(hb:iL w B nb cb b):
  Calls Tryz.prog 125 #[.int .i64 t,.slice A na ca,.slice B nb cb] w fun e w' =>∃v,e= .returned v∧aS w' w.heap.size v (gU t a b)∧Below w.heap.size w w' :=by
 have HA:=zH ha
 have HB:=zH hb
 obtain rfl:=ha.hn
 obtain rfl:=hb.hn
 clear ha hb
 obtain⟨x,HX⟩:∃x,Hid (aC t a=x):=⟨_,rfl⟩
 cases x
 ·have HF:=zH (yY (b:=b) (xA HX))
  go_enter Tryz.func125,Tryz.ntmps125
  go_wp2_with fail
  refine(cU HX _ _ _ _ rfl HA.out.hl HA.out.hA).mono ?_
  rintro e w' ⟨rfl,m1,rfl⟩
  go_wp2_with fail
  go_ret
  exact⟨_,rfl,by rw[HF.out];exact aS.lit _ _ [] (Nat.le_refl _) (by simp[maxLen]),(aE (Below.refl _ _) _).alloc (Nat.le_refl _) _⟩
 obtain⟨y,HY⟩:∃y,Hid (aC t b=y):=⟨_,rfl⟩
 cases y
 ·have HF:=zH (yY (y7 HX HY))
  go_enter Tryz.func125,Tryz.ntmps125
  go_wp2_with fail
  refine(cU HX _ _ _ _ rfl HA.out.hl HA.out.hA).mono ?_
  rintro e w' ⟨rfl,m2,rfl⟩
  go_wp2_with fail
  refine(cU HY _ _ _ _ rfl HB.out.hl (by exact HB.out.hA)).mono ?_
  rintro e w' ⟨rfl,m3,rfl⟩
  go_wp2_with fail
  go_ret
  exact⟨_,rfl,by rw[HF.out];exact aS.lit _ _ [] (Nat.le_refl _) (by simp[maxLen]),(aE (Below.refl _ _) _).alloc (Nat.le_refl _) _⟩
 have h1:=HX.out
 have h2:=HY.out
 obtain⟨hla,hla2⟩:=dJ h1
 obtain⟨hlb,hlb2⟩:=dJ h2
 have HRA:=zH (dD h1)
 have HRB:=zH (dD h2)
 have HF:=zH (qY h1 h2)
 have HS:=zH (cV (jT (b:=b) h1))
 have HP2:Hid ((eU a b).length≤4900):=by unfold Hid;rw[wI];exact Nat.le_trans (Nat.mul_le_mul hla2 hlb2) (by omega)
 clear h1 h2
 go_enter Tryz.func125,Tryz.ntmps125
 go_wp2_with fail
 refine(cU HX _ _ _ _ rfl HA.out.hl HA.out.hA).mono ?_
 rintro e w' ⟨rfl,m4,rfl⟩
 go_wp2_with fail
 refine(cU HY _ _ _ _ rfl HB.out.hl (by exact HB.out.hA)).mono ?_
 rintro e w' ⟨rfl,m5,rfl⟩
 go_wp2_with fail
 go_loopw [7,8] (fun v i wr=>∃k:Nat,k≤a.length∧i= .int .i64 k∧aS wr w.heap.size v (fV a b k 0)∧Below w.heap.size w wr) (fun _ i _=>a.length-(Go.RowKit.intOf i).toNat)
 case atStart=>exact⟨0,Nat.zero_le _,rfl,by rw[yH];exact aS.lit _ _ [] (Nat.le_refl _) (by simp[maxLen]),(aE (Below.refl _ _) _).alloc (Nat.le_refl _) _⟩
 case round=>
  obtain⟨k,hk,rfl,hown,hbel⟩:=hrel
  have HOW:=zH hown
  have HBW:=zH hbel
  clear hown hbel
  by_cases hlt:k<a.length
  ·obtain⟨bb,off,x,rfl,_,hx,hbb⟩:=(HA.out.hA.below HBW.out).elem hlt
   obtain⟨he1,he2⟩:=HRA.out x (eG hx)
   have hd:decide ((k:Int)<(a.length:Int))=true:=decide_eq_true (by omega)
   go_wp2_with fail
   clear hd
   go_loopw [7,9] (fun v i wi=>∃j:Nat,j≤b.length∧i= .int .i64 j∧aS wi w.heap.size v (fV a b k j)∧Below w.heap.size w wi) (fun _ i _=>b.length-(Go.RowKit.intOf i).toNat)
   case atStart=>exact⟨0,Nat.zero_le _,rfl,HOW.out,HBW.out⟩
   case round=>
    obtain⟨j,hj,rfl,hown,hbel⟩:=hrel
    have HOI:=zH hown
    have HBI:=zH hbel
    clear hown hbel
    by_cases hjt:j<b.length
    ·obtain⟨bb1,off1,x1,hAe,hcell1,hx1,_⟩:=(HA.out.hA.below HBI.out).elem hlt
     simp only[Option.some.injEq,Addr.mk.injEq] at hAe
     obtain⟨rfl,rfl,_⟩:=hAe
     obtain rfl:x1=x:=by have:=hx1.out;rw[hx.out] at this;cases this;rfl
     obtain⟨bb2,off2,y,rfl,hcell,hy,_⟩:=(HB.out.hA.below HBI.out).elem hjt
     obtain⟨hf1,hf2⟩:=HRB.out y (eG hy)
     have HT:=zH (CY hx hy)
     have hsm:=wU hla2 hlb2 k j hk
     have hj1:(j:Int)<(b.length:Int):=by omega
     have hk1:(k:Int)<(a.length:Int):=by omega
     go_wp2_with fail
     go_region_law (first|(refine EK rfl _ _ rfl w.heap.size u7 (fV a b k j) rfl (by exact HOI.out) _ rfl (by omega) HBI.out.size ?_;intro v' w' hown' hgrow)|(go_simp;go_at_call 66;refine(tA _ _ he1 he2 hf1 hf2 _).mono ?_;rintro e w' ⟨rfl,m,rfl⟩))
     all_goals
      have hb' :=gP (aE HBI.out _) (by exact HBI.out.size) (by exact HOI.out) (Nat.le_refl _) hgrow
      go_wp2_with fail
      go_roundw
      case rel=>exact⟨j+1,by omega,by go_num,by rw[HT.out];exact hown',hb'⟩
      case measure=>simp[Go.RowKit.intOf];omega
    ·obtain rfl:j=b.length:=by omega
     have HT:=zH (BM (b:=b) hx)
     go_wp2_with fail
     go_roundw
     case rel=>exact⟨k+1,by omega,by go_num,by rw[HT.out];exact HOI.out,HBI.out⟩
     case measure=>simp[Go.RowKit.intOf];omega
  ·obtain rfl:k=a.length:=by omega
   have HE:Hid (fV a b a.length 0=eU a b):=AM a b
   rw[HE.out] at HOW
   obtain⟨A1,c1,rfl,hc1,hm1,hn1,_⟩:=HOW.out.form
   have HN1:=zH hn1
   have hle:(eU a b).length≤1048576:=by have:=HP2.out;omega
   clear hm1 hn1
   go_wp2_with fail
   refine(KX _ _ _ (eU a b) _ rfl hle HS.out HN1.out).mono ?_
   rintro e w2 ⟨v,rfl,ho,hb⟩
   have HO2:=zH ho
   have HB2:=zH (aA HBW.out hb)
   have hsz:=HBW.out.size
   clear ho hb
   go_wp2_with fail
   go_ret
   exact⟨_,rfl,by rw[HF.out];exact HO2.out.base hsz,HB2.out⟩
theorem vX(t:Int)(A B:Option Addr)(na ca nb cb:Nat)(a b:List Int)(w:World)(ha:iL w A na ca a)(hb:iL w B nb cb b):
  Calls Tryz.prog 126 #[.int .i64 t,.slice A na ca,.slice B nb cb] w fun e w' =>∃v,e= .returned v∧aS w' w.heap.size v (fB t a b)∧Below w.heap.size w w' :=by
 have HA:=zH ha
 have HB:=zH hb
 obtain rfl:=ha.hn
 obtain rfl:=hb.hn
 clear ha hb
 obtain⟨x,HX⟩:∃x,Hid (aC t a=x):=⟨_,rfl⟩
 cases x
 ·have HF:=zH (tS (b:=b) (xA HX))
  go_enter Tryz.func126,Tryz.ntmps126
  go_wp2_with fail
  refine(cU HX _ _ _ _ rfl HA.out.hl HA.out.hA).mono ?_
  rintro e w' ⟨rfl,m1,rfl⟩
  go_wp2_with fail
  go_ret
  exact⟨_,rfl,by rw[HF.out];exact aS.lit _ _ [] (Nat.le_refl _) (by simp[maxLen]),(aE (Below.refl _ _) _).alloc (Nat.le_refl _) _⟩
 obtain⟨y,HY⟩:∃y,Hid (aC t b=y):=⟨_,rfl⟩
 cases y
 ·have HF:=zH (tS (y7 HX HY))
  go_enter Tryz.func126,Tryz.ntmps126
  go_wp2_with fail
  refine(cU HX _ _ _ _ rfl HA.out.hl HA.out.hA).mono ?_
  rintro e w' ⟨rfl,m2,rfl⟩
  go_wp2_with fail
  refine(cU HY _ _ _ _ rfl HB.out.hl (by exact HB.out.hA)).mono ?_
  rintro e w' ⟨rfl,m3,rfl⟩
  go_wp2_with fail
  go_ret
  exact⟨_,rfl,by rw[HF.out];exact aS.lit _ _ [] (Nat.le_refl _) (by simp[maxLen]),(aE (Below.refl _ _) _).alloc (Nat.le_refl _) _⟩
 have h1:=HX.out
 have h2:=HY.out
 obtain⟨hla,hla2⟩:=dJ h1
 obtain⟨hlb,hlb2⟩:=dJ h2
 have HF:=zH (p7 h1 h2)
 have HS:=zH (cV (mX h1 h2))
 clear h1 h2
 obtain⟨ab,HAB⟩:∃l,Hid (a++b=l):=⟨_,rfl⟩
 have hle:ab.length≤1048576:=by rw[←HAB.out,List.length_append];omega
 rw[HAB.out] at HF HS
 go_enter Tryz.func126,Tryz.ntmps126
 go_wp2_with fail
 refine(cU HX _ _ _ _ rfl HA.out.hl HA.out.hA).mono ?_
 rintro e w' ⟨rfl,m4,rfl⟩
 go_wp2_with fail
 refine(cU HY _ _ _ _ rfl HB.out.hl (by exact HB.out.hA)).mono ?_
 rintro e w' ⟨rfl,m5,rfl⟩
 have HB0:Hid (Below w.heap.size w ((w.drewN (m4+m5)).alloc (.cells #[] 3))):=(aE (Below.refl _ _) _).alloc (Nat.le_refl _) _
 have HO0:Hid (aS ((w.drewN (m4+m5)).alloc (.cells #[] 3)) w.heap.size (.slice (some ⟨w.heap.size,0,none⟩) 0 0) []):=aS.lit (w.drewN (m4+m5)) w.heap.size [] (Nat.le_refl _) (by simp[maxLen])
 go_wp2_with (at_builtin;first
  |(refine oW rfl _ _ rfl w.heap.size (.slice (some ⟨w.heap.size,0,none⟩) 0 0) [] rfl HO0.out a A a.length ca rfl rfl hla (HA.out.hA.below HB0.out) (by simp;omega) HB0.out.size ?_;intro v2 w2 hown2 hgrow2;have HO2:=zH hown2;have HB2:=zH (oB HB0.out HB0.out.size HO0.out (Nat.le_refl _) hgrow2);clear hown2 hgrow2 HO0 HB0)
  |(refine oW rfl _ _ rfl w.heap.size v2 a rfl HO2.out b B b.length cb rfl rfl hlb (HB.out.hA.below HB2.out) (by omega) HB2.out.size ?_;intro v3 w3 hown3 hgrow3))
 rw[HAB.out] at hown3
 have HO3:=zH hown3
 have HB3:=zH (oB HB2.out HB2.out.size HO2.out (Nat.le_refl _) hgrow3)
 clear hown3 hgrow3
 obtain⟨A1,c1,rfl,hc1,hm1,hn1,_⟩:=HO3.out.form
 have HN1:=zH hn1
 have hsz1:=HB3.out.size
 clear hm1 hn1
 go_wp2_with fail
 refine(KX _ _ _ ab _ rfl hle HS.out HN1.out).mono ?_
 rintro e w4 ⟨v,rfl,ho,hb⟩
 have HO4:=zH ho
 have HB4:=zH (aA HB3.out hb)
 clear ho hb
 go_wp2_with fail
 go_ret
 exact⟨_,rfl,by rw[HF.out];exact HO4.out.base hsz1,HB4.out⟩
theorem GM(t:Int)(A B:Option Addr)(na ca nb cb:Nat)(a b:List Int)(w:World)(ha:iL w A na ca a)(hb:iL w B nb cb b):
  Calls Tryz.prog 127 #[.int .i64 t,.slice A na ca,.slice B nb cb] w fun e w' =>∃v,e= .returned v∧aS w' w.heap.size v (nP t a b)∧Below w.heap.size w w' :=by
 have HA:=zH ha
 have HB:=zH hb
 obtain rfl:=ha.hn
 obtain rfl:=hb.hn
 have hbl:=hb.hl
 clear ha hb
 obtain⟨x,HX⟩:∃x,Hid (aC t a=x):=⟨_,rfl⟩
 cases x
 ·have HF:=zH (GP (b:=b) (xA HX))
  go_enter Tryz.func127,Tryz.ntmps127
  go_wp2_with fail
  refine(cU HX _ _ _ _ rfl HA.out.hl HA.out.hA).mono ?_
  rintro e w' ⟨rfl,m1,rfl⟩
  go_wp2_with fail
  go_ret
  exact⟨_,rfl,by rw[HF.out];exact aS.lit _ _ [] (Nat.le_refl _) (by simp[maxLen]),(aE (Below.refl _ _) _).alloc (Nat.le_refl _) _⟩
 obtain⟨y,HY⟩:∃y,Hid (aC t b=y):=⟨_,rfl⟩
 cases y
 ·have HF:=zH (GP (y7 HX HY))
  go_enter Tryz.func127,Tryz.ntmps127
  go_wp2_with fail
  refine(cU HX _ _ _ _ rfl HA.out.hl HA.out.hA).mono ?_
  rintro e w' ⟨rfl,m2,rfl⟩
  go_wp2_with fail
  refine(cU HY _ _ _ _ rfl HB.out.hl (by exact HB.out.hA)).mono ?_
  rintro e w' ⟨rfl,m3,rfl⟩
  go_wp2_with fail
  go_ret
  exact⟨_,rfl,by rw[HF.out];exact aS.lit _ _ [] (Nat.le_refl _) (by simp[maxLen]),(aE (Below.refl _ _) _).alloc (Nat.le_refl _) _⟩
 have h1:=HX.out
 have h2:=HY.out
 obtain⟨hla,hla2⟩:=dJ h1
 obtain⟨ht1,ht3⟩:=cN h1
 have HRA:=zH (dD h1)
 have HRB:=zH (dD h2)
 have HF:=zH (ED h1 h2)
 have HS:=zH (cV (uG (b:=b) h1))
 obtain⟨al,hal⟩:∃n:Nat,n=(aJ t).toNat:=⟨_,rfl⟩
 have h0:=bH t
 have HAL:Hid (aJ t=(al:Int)):=by unfold Hid;omega
 have hal2:al<256:=by omega
 have HAL2:Hid ((aJ t+1).toNat=al+1):=by unfold Hid;omega
 rw[HAL2.out] at HF HS
 clear h1 h2 hal h0
 go_enter Tryz.func127,Tryz.ntmps127
 go_wp2_with fail
 refine(cU HX _ _ _ _ rfl HA.out.hl HA.out.hA).mono ?_
 rintro e w' ⟨rfl,m4,rfl⟩
 go_wp2_with fail
 refine(cU HY _ _ _ _ rfl HB.out.hl (by exact HB.out.hA)).mono ?_
 rintro e w' ⟨rfl,m5,rfl⟩
 go_wp2_with fail
 go_loopw [7,8] (fun v i wr=>∃k:Nat,k≤al+1∧i= .int .i64 k∧aS wr w.heap.size v (dY a b k)∧Below w.heap.size w wr) (fun _ i _=>al+1-(Go.RowKit.intOf i).toNat)
 case atStart=>exact⟨0,Nat.zero_le _,rfl,by rw[xG];exact aS.lit _ _ [] (Nat.le_refl _) (by simp[maxLen]),(aE (Below.refl _ _) _).alloc (Nat.le_refl _) _⟩
 case round=>
  obtain⟨k,hk,rfl,hown,hbel⟩:=hrel
  have HOW:=zH hown
  have HBW:=zH hbel
  clear hown hbel
  by_cases hlt:k≤al
  ·have hd:decide ((k:Int)≤(al:Int))=true:=decide_eq_true (by omega)
   go_wp2_with fail
   refine(FE _ _ ht1 ht3).mono ?_
   rintro e w' ⟨rfl,rfl⟩
   rw[HAL.out]
   go_wp2_with fail
   clear hd
   go_loopw [9,10] (fun g j wi=>∃(i:Nat) (gb:Bool),i≤a.length∧j= .int .i64 i∧g= .bool gb∧Hid (dT (a.take i) b k=gb)∧∃m,wi=wr.drewN m) (fun _ j _=>a.length-(Go.RowKit.intOf j).toNat)
   case atStart=>exact⟨0,true,Nat.zero_le _,rfl,rfl,rfl,0,rfl⟩
   case round=>
    obtain⟨i,gb,hi,rfl,rfl,hg,m,rfl⟩:=hrel
    by_cases hit:i<a.length
    ·obtain⟨bb,off,x,rfl,hcell,hx,_⟩:=(HA.out.hA.below HBW.out).elem hit
     obtain⟨he1,he2⟩:=HRA.out x (eG hx)
     cases gb
     ·have HT:Hid (dT (a.take (i+1)) b k=false):=by unfold Hid;rw[wL hx,hg.out];rfl
      go_wp2_with fail
      go_roundw
      case rel=>exact⟨i+1,false,by omega,by go_num,rfl,HT,_,rfl⟩
      case measure=>simp[Go.RowKit.intOf];omega
     ·obtain⟨v,HV⟩:∃v,Hid (aF (aQ (k:Int) x) b=v):=⟨_,rfl⟩
      have HT:Hid (dT (a.take (i+1)) b k=v):=by unfold Hid;rw[wL hx,hg.out,HV.out];rfl
      have hand0:=aR (k:Int) x
      have hand1:=lC (k:Int) x (by omega)
      go_wp2_with fail
      refine(tA _ _ (by omega) (by omega) he1 he2 _).mono ?_
      rintro e w' ⟨rfl,m2,rfl⟩
      go_wp2_with fail
      refine(uS HV _ _ _ _ rfl hand0 (by omega) HRB.out hbl (HB.out.hA.below (aE HBW.out _))).mono ?_
      rintro e w' ⟨rfl,m3,rfl⟩
      go_wp2_with fail
      go_roundw
      case rel=>exact⟨i+1,v,by omega,by go_num,rfl,HT,_,rfl⟩
      case measure=>simp[Go.RowKit.intOf];omega
    ·obtain rfl:i=a.length:=by omega
     rw[List.take_length] at hg
     have hlen:=qF a b k
     cases gb
     ·have HT:Hid (dY a b (k+1)=dY a b k):=by unfold Hid;rw[oK,hg.out];simp
      go_wp2_with fail
      go_roundw
      case rel=>exact⟨k+1,by omega,by go_num,by rw[HT.out];exact HOW.out,aE HBW.out _⟩
      case measure=>simp[Go.RowKit.intOf];omega
     ·have HT:Hid (dY a b (k+1)=dY a b k++[(k:Int)]):=by unfold Hid;rw[oK,hg.out];simp
      have HOW2:Hid (aS (wr.drewN m) w.heap.size u7 (dY a b k)):=HOW.out
      have HB2:=zH (aE HBW.out m)
      go_wp2_with (at_builtin;refine kB (W:=wr.drewN m) rfl _ _ rfl w.heap.size u7 (dY a b k) rfl HOW2.out (k:Int) rfl (by omega) HB2.out.size ?_;intro v' w' hown' hgrow)
      have hb' :=gP HB2.out HB2.out.size HOW2.out (Nat.le_refl _) hgrow
      go_roundw
      case rel=>exact⟨k+1,by omega,by go_num,by rw[HT.out];exact hown',hb'⟩
      case measure=>simp[Go.RowKit.intOf];omega
  ·obtain rfl:k=al+1:=by omega
   have hd:decide (((al+1:Nat):Int)≤(al:Int))=false:=decide_eq_false (by omega)
   have hd' :decide ((al:Int)+1≤(al:Int))=false:=decide_eq_false (by omega)
   have hlen:=qF a b (al+1)
   obtain⟨A1,c1,rfl,hc1,hm1,hn1,_⟩:=HOW.out.form
   have HN1:=zH hn1
   have hle:(dY a b (al+1)).length≤1048576:=by omega
   clear hm1 hn1
   go_wp2_with fail
   refine(FE _ _ ht1 ht3).mono ?_
   rintro e w' ⟨rfl,rfl⟩
   rw[HAL.out]
   go_wp2_with fail
   refine(KX _ _ _ (dY a b (al+1)) _ rfl hle HS.out HN1.out).mono ?_
   rintro e w2 ⟨v,rfl,ho,hb⟩
   have HO2:=zH ho
   have HB2:=zH (aA HBW.out hb)
   have hsz:=HBW.out.size
   clear ho hb
   go_wp2_with fail
   go_ret
   exact⟨_,rfl,by rw[HF.out];exact HO2.out.base hsz,HB2.out⟩
theorem DQ(t:Int)(A:Option Addr)(na ca:Nat)(a:List Int)(w:World)(ha:iL w A na ca a):
  Calls Tryz.prog 123 #[.int .i64 t,.slice A na ca] w fun e w' =>∃v,e= .returned v∧aS w' w.heap.size v (iW t a)∧Below w.heap.size w w' :=by
 have HA:=zH ha
 obtain rfl:=ha.hn
 clear ha
 obtain⟨x,HX⟩:∃x,Hid (aC t a=x):=⟨_,rfl⟩
 cases x
 ·have HF:=zH (BR HX.out)
  go_enter Tryz.func123,Tryz.ntmps123
  go_wp2_with fail
  refine(cU HX _ _ _ _ rfl HA.out.hl HA.out.hA).mono ?_
  rintro e w' ⟨rfl,m1,rfl⟩
  go_wp2_with fail
  go_ret
  exact⟨_,rfl,by rw[HF.out];exact aS.lit _ _ [] (Nat.le_refl _) (by simp[maxLen]),(aE (Below.refl _ _) _).alloc (Nat.le_refl _) _⟩
 ·have HF:=zH (FW HX.out)
  go_enter Tryz.func123,Tryz.ntmps123
  go_wp2_with fail
  refine(cU HX _ _ _ _ rfl HA.out.hl HA.out.hA).mono ?_
  rintro e w' ⟨rfl,m2,rfl⟩
  go_wp2_with fail
  have hbel:Below w.heap.size w ((w.drewN m2).alloc (.cells #[.int .i64 0] 3)):=(aE (Below.refl _ _) _).alloc (Nat.le_refl _) _
  have HO:aS ((w.drewN m2).alloc (.cells #[.int .i64 0] 3)) w.heap.size (.slice (some ⟨w.heap.size,0,none⟩) 1 1) [0]:=aS.lit (w.drewN m2) w.heap.size [0] (Nat.le_refl _) (by simp[maxLen])
  refine(GM t A _ a.length ca 1 1 a [0] _ (HA.out.below hbel) (HO.row (by simp))).mono ?_
  rintro e w1 ⟨v,rfl,ho,hb⟩
  have HO1:=zH ho
  have HB1:=zH (hbel.trans (hb.mono (by rw[World.size_alloc];exact Nat.le_succ _)))
  clear ho hb HO hbel
  go_wp2_with fail
  go_ret
  exact⟨_,rfl,by rw[HF.out];exact HO1.out.base (by rw[World.size_alloc];exact Nat.le_succ _),HB1.out⟩
theorem DW(t:Int)(A:Option Addr)(na ca:Nat)(a:List Int)(w:World)(ha:iL w A na ca a):
  Calls Tryz.prog 124 #[.int .i64 t,.slice A na ca] w fun e w' =>∃v,e= .returned v∧aS w' w.heap.size v (dQ t a)∧Below w.heap.size w w' :=by
 have HA:=zH ha
 obtain rfl:=ha.hn
 have hnl:=JM t a
 have HW:=zH (yL (t:=t) (a:=a))
 clear ha
 obtain⟨x,HX⟩:∃x,Hid (aC t a=x):=⟨_,rfl⟩
 cases x
 ·have HF:Hid (dQ t a=[]):=by unfold Hid dQ;rw[HX.out];rfl
  go_enter Tryz.func124,Tryz.ntmps124
  go_wp2_with fail
  refine(cU HX _ _ _ _ rfl HA.out.hl HA.out.hA).mono ?_
  rintro e w' ⟨rfl,m1,rfl⟩
  go_wp2_with fail
  go_ret
  exact⟨_,rfl,by rw[HF.out];exact aS.lit _ _ [] (Nat.le_refl _) (by simp[maxLen]),(aE (Below.refl _ _) _).alloc (Nat.le_refl _) _⟩
 ·go_enter Tryz.func124,Tryz.ntmps124
  go_wp2_with fail
  refine(cU HX _ _ _ _ rfl HA.out.hl HA.out.hA).mono ?_
  rintro e w' ⟨rfl,m2,rfl⟩
  go_wp2_with fail
  refine(DQ t A _ ca a _ (HA.out.drewN _)).mono ?_
  rintro e w1 ⟨v,rfl,ho,hb⟩
  obtain⟨A1,c1,rfl,hc1,hm1,hn1,_⟩:=ho.form
  have HR1:=zH (ho.row (by omega))
  have HB1:=zH (aA (aE (Below.refl _ _) m2) hb)
  have hsz1:=HB1.out.size
  clear ho hb hm1 hn1
  go_wp2_with fail
  refine(vX t A _ _ _ _ _ a (iW t a) _ (HA.out.below HB1.out) HR1.out).mono ?_
  rintro e w2 ⟨v,rfl,ho,hb⟩
  have HO2:=zH ho
  have HB2:=zH (aA HB1.out hb)
  clear ho hb
  go_wp2_with fail
  go_ret
  exact⟨_,rfl,by rw[HW.out];exact HO2.out.base hsz1,HB2.out⟩
end Go.Proofs.YtfhjcacfchkdpaaGreatDoor

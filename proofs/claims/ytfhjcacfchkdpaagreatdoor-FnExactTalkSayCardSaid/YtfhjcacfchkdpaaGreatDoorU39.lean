/-
  What the proofs of this seat's statements share (LdsL, LdsT, LdsU, TdxA, RunS, NumT).
-/
import Derived.Deep.Cut
import Derived.Deep.CutRange
import Derived.Deep.CutBlock
import Derived.RangeFuncBox
import Derived.Deep.RegionHeld3
import Derived.Test.YtfhjcacfchkdpaaGreatDoorU29
import Derived.Test.YtfhjcacfchkdpaaGreatDoorU33
import Derived.Test.YtfhjcacfchkdpaaGreatDoorU34
import Derived.Test.YtfhjcacfchkdpaaGreatDoorU35
import Derived.Test.YtfhjcacfchkdpaaGreatDoorU36
import Derived.Test.YtfhjcacfchkdpaaGreatDoorU37
import Derived.Test.YtfhjcacfchkdpaaGreatDoorU38
set_option maxRecDepth 100000
set_option maxHeartbeats 32000000
namespace Go.Proofs.YtfhjcacfchkdpaaGreatDoor
open Go.RowKit
theorem tG{a b g:Int}(h:Hid (aQ a b=g))(ha:0≤a)(ha2:a<256)(hb:0≤b)(hb2:b<256)(w:World):
  Calls Tryz.prog 66 #[.int .i64 a,.int .i64 b] w fun e w' =>e= .returned (.int .i64 g)∧∃n,w' =w.drewN n:=by
 have:=tA a b ha ha2 hb hb2 w
 rw[h.out] at this;exact this
theorem LD(t:Int)(s:ByteArray)(at_:Nat)(v:Int)(w:World)(hs:s.size≤1048576)(hv:VR t v)(hat:at_<s.size)(i:Nat)(hc:s[at_].toNat=97+i)(h1:1≤t)(h3:t≤3)(hi:(i:Int)<t):
  Calls Tryz.prog 103 #[.int .i64 t,.int .i64 v,.string s,.int .i64 at_] w (bI t s (.thing i) ((aG s).drop (at_+1)) v w):=by
 have hd:(at_:Int)<(s.size:Int):=by omega
 have hd0:(0:Int)≤(at_:Int):=by omega
 have HH:=zH hv
 have hv2:=hv.lt
 have HV:=zH (N0 (t:=t) (v:=v) (i:=i))
 rw[←nF h1 h3 hi] at HV
 clear hv
 have h:(t=1∧i=0)∨(t=2∧i=0)∨(t=2∧i=1)∨(t=3∧i=0)∨(t=3∧i=1)∨(t=3∧i=2):=by omega
 clear h1 h3 hi
 rcases h with⟨rfl,rfl⟩|⟨rfl,rfl⟩|⟨rfl,rfl⟩|⟨rfl,rfl⟩|⟨rfl,rfl⟩|⟨rfl,rfl⟩
 ·have hc:s[at_].toNat=97:=hc
  have hb:Hid (∀k:Nat,k<2→k=0∨k=1∨k=2∨k=3∨k=4∨k=5∨k=6∨k=7):=fun k hk=>by omega
  have HV:Hid (cG 1 (.thing (97-97)) v=if v<0 then-1 else aQ v (bV 97 2:Int)):=HV
  go_enter Tryz.func103,Tryz.ntmps103
  go_wp2_with fail
  go_loop [10,11] (fun v i=>∃k:Nat,k≤2∧i= .int .i64 k∧v= .int .i64 (bV 97 k)) (fun _ i=>2-(Go.RowKit.intOf i).toNat)
  case atStart=>exact⟨0,Nat.zero_le _,rfl,rfl⟩
  case round=>
   obtain⟨k,hk,rfl,rfl⟩:=hrel
   by_cases hlt:k<2
   ·have h8:=hb.out k hlt
    clear hk
    rcases h8 with rfl|rfl|rfl|rfl|rfl|rfl|rfl|rfl
    all_goals first
     |(exfalso;revert hlt;decide)
     |(clear hlt
       go_wp2_with fail
       exact⟨⟨_,by decide,rfl,by first|rfl|(rw[IntWalk.wrap64_in _ ⟨by decide,by decide⟩];rfl)⟩,by decide⟩)
   ·obtain rfl:k=2:=by omega
    by_cases hneg:v<0
    ·have HV2:=zH HV.out
     rw[if_pos hneg] at HV2
     clear HV
     go_wp2_with fail
     go_ret2
     exact bI.one HH.out HV2.out hat ⟨0,rfl⟩ (by omega)
    ·have HV2:=zH HV.out
     rw[if_neg hneg] at HV2
     have hneg2:decide (v<0)=false:=decide_eq_false hneg
     have hge:0≤v:=by omega
     obtain⟨r,HRR⟩:∃r,Hid (aQ v (bV 97 2:Int)=r):=⟨_,rfl⟩
     rw[HRR.out] at HV2
     clear HV
     go_wp2_with fail
     refine(tG HRR hge (by omega) (by decide) (by decide) _).mono ?_
     rintro e w1 ⟨rfl,q,rfl⟩
     go_wp2_with fail
     go_ret2
     exact bI.one HH.out HV2.out hat ⟨_,rfl⟩ (by omega)
 ·have hc:s[at_].toNat=97:=hc
  have hb:Hid (∀k:Nat,k<4→k=0∨k=1∨k=2∨k=3∨k=4∨k=5∨k=6∨k=7):=fun k hk=>by omega
  have HV:Hid (cG 2 (.thing (97-97)) v=if v<0 then-1 else aQ v (bV 97 4:Int)):=HV
  go_enter Tryz.func103,Tryz.ntmps103
  go_wp2_with fail
  go_loop [10,11] (fun v i=>∃k:Nat,k≤4∧i= .int .i64 k∧v= .int .i64 (bV 97 k)) (fun _ i=>4-(Go.RowKit.intOf i).toNat)
  case atStart=>exact⟨0,Nat.zero_le _,rfl,rfl⟩
  case round=>
   obtain⟨k,hk,rfl,rfl⟩:=hrel
   by_cases hlt:k<4
   ·have h8:=hb.out k hlt
    clear hk
    rcases h8 with rfl|rfl|rfl|rfl|rfl|rfl|rfl|rfl
    all_goals first
     |(exfalso;revert hlt;decide)
     |(clear hlt
       go_wp2_with fail
       exact⟨⟨_,by decide,rfl,by first|rfl|(rw[IntWalk.wrap64_in _ ⟨by decide,by decide⟩];rfl)⟩,by decide⟩)
   ·obtain rfl:k=4:=by omega
    by_cases hneg:v<0
    ·have HV2:=zH HV.out
     rw[if_pos hneg] at HV2
     clear HV
     go_wp2_with fail
     go_ret2
     exact bI.one HH.out HV2.out hat ⟨0,rfl⟩ (by omega)
    ·have HV2:=zH HV.out
     rw[if_neg hneg] at HV2
     have hneg2:decide (v<0)=false:=decide_eq_false hneg
     have hge:0≤v:=by omega
     obtain⟨r,HRR⟩:∃r,Hid (aQ v (bV 97 4:Int)=r):=⟨_,rfl⟩
     rw[HRR.out] at HV2
     clear HV
     go_wp2_with fail
     refine(tG HRR hge (by omega) (by decide) (by decide) _).mono ?_
     rintro e w1 ⟨rfl,q,rfl⟩
     go_wp2_with fail
     go_ret2
     exact bI.one HH.out HV2.out hat ⟨_,rfl⟩ (by omega)
 ·have hc:s[at_].toNat=98:=hc
  have hb:Hid (∀k:Nat,k<4→k=0∨k=1∨k=2∨k=3∨k=4∨k=5∨k=6∨k=7):=fun k hk=>by omega
  have HV:Hid (cG 2 (.thing (98-97)) v=if v<0 then-1 else aQ v (bV 98 4:Int)):=HV
  go_enter Tryz.func103,Tryz.ntmps103
  go_wp2_with fail
  go_loop [10,11] (fun v i=>∃k:Nat,k≤4∧i= .int .i64 k∧v= .int .i64 (bV 98 k)) (fun _ i=>4-(Go.RowKit.intOf i).toNat)
  case atStart=>exact⟨0,Nat.zero_le _,rfl,rfl⟩
  case round=>
   obtain⟨k,hk,rfl,rfl⟩:=hrel
   by_cases hlt:k<4
   ·have h8:=hb.out k hlt
    clear hk
    rcases h8 with rfl|rfl|rfl|rfl|rfl|rfl|rfl|rfl
    all_goals first
     |(exfalso;revert hlt;decide)
     |(clear hlt
       go_wp2_with fail
       exact⟨⟨_,by decide,rfl,by first|rfl|(rw[IntWalk.wrap64_in _ ⟨by decide,by decide⟩];rfl)⟩,by decide⟩)
   ·obtain rfl:k=4:=by omega
    by_cases hneg:v<0
    ·have HV2:=zH HV.out
     rw[if_pos hneg] at HV2
     clear HV
     go_wp2_with fail
     go_ret2
     exact bI.one HH.out HV2.out hat ⟨0,rfl⟩ (by omega)
    ·have HV2:=zH HV.out
     rw[if_neg hneg] at HV2
     have hneg2:decide (v<0)=false:=decide_eq_false hneg
     have hge:0≤v:=by omega
     obtain⟨r,HRR⟩:∃r,Hid (aQ v (bV 98 4:Int)=r):=⟨_,rfl⟩
     rw[HRR.out] at HV2
     clear HV
     go_wp2_with fail
     refine(tG HRR hge (by omega) (by decide) (by decide) _).mono ?_
     rintro e w1 ⟨rfl,q,rfl⟩
     go_wp2_with fail
     go_ret2
     exact bI.one HH.out HV2.out hat ⟨_,rfl⟩ (by omega)
 ·have hc:s[at_].toNat=97:=hc
  have hb:Hid (∀k:Nat,k<8→k=0∨k=1∨k=2∨k=3∨k=4∨k=5∨k=6∨k=7):=fun k hk=>by omega
  have HV:Hid (cG 3 (.thing (97-97)) v=if v<0 then-1 else aQ v (bV 97 8:Int)):=HV
  go_enter Tryz.func103,Tryz.ntmps103
  go_wp2_with fail
  go_loop [10,11] (fun v i=>∃k:Nat,k≤8∧i= .int .i64 k∧v= .int .i64 (bV 97 k)) (fun _ i=>8-(Go.RowKit.intOf i).toNat)
  case atStart=>exact⟨0,Nat.zero_le _,rfl,rfl⟩
  case round=>
   obtain⟨k,hk,rfl,rfl⟩:=hrel
   by_cases hlt:k<8
   ·have h8:=hb.out k hlt
    clear hk
    rcases h8 with rfl|rfl|rfl|rfl|rfl|rfl|rfl|rfl
    all_goals first
     |(exfalso;revert hlt;decide)
     |(clear hlt
       go_wp2_with fail
       exact⟨⟨_,by decide,rfl,by first|rfl|(rw[IntWalk.wrap64_in _ ⟨by decide,by decide⟩];rfl)⟩,by decide⟩)
   ·obtain rfl:k=8:=by omega
    by_cases hneg:v<0
    ·have HV2:=zH HV.out
     rw[if_pos hneg] at HV2
     clear HV
     go_wp2_with fail
     go_ret2
     exact bI.one HH.out HV2.out hat ⟨0,rfl⟩ (by omega)
    ·have HV2:=zH HV.out
     rw[if_neg hneg] at HV2
     have hneg2:decide (v<0)=false:=decide_eq_false hneg
     have hge:0≤v:=by omega
     obtain⟨r,HRR⟩:∃r,Hid (aQ v (bV 97 8:Int)=r):=⟨_,rfl⟩
     rw[HRR.out] at HV2
     clear HV
     go_wp2_with fail
     refine(tG HRR hge (by omega) (by decide) (by decide) _).mono ?_
     rintro e w1 ⟨rfl,q,rfl⟩
     go_wp2_with fail
     go_ret2
     exact bI.one HH.out HV2.out hat ⟨_,rfl⟩ (by omega)
 ·have hc:s[at_].toNat=98:=hc
  have hb:Hid (∀k:Nat,k<8→k=0∨k=1∨k=2∨k=3∨k=4∨k=5∨k=6∨k=7):=fun k hk=>by omega
  have HV:Hid (cG 3 (.thing (98-97)) v=if v<0 then-1 else aQ v (bV 98 8:Int)):=HV
  go_enter Tryz.func103,Tryz.ntmps103
  go_wp2_with fail
  go_loop [10,11] (fun v i=>∃k:Nat,k≤8∧i= .int .i64 k∧v= .int .i64 (bV 98 k)) (fun _ i=>8-(Go.RowKit.intOf i).toNat)
  case atStart=>exact⟨0,Nat.zero_le _,rfl,rfl⟩
  case round=>
   obtain⟨k,hk,rfl,rfl⟩:=hrel
   by_cases hlt:k<8
   ·have h8:=hb.out k hlt
    clear hk
    rcases h8 with rfl|rfl|rfl|rfl|rfl|rfl|rfl|rfl
    all_goals first
     |(exfalso;revert hlt;decide)
     |(clear hlt
       go_wp2_with fail
       exact⟨⟨_,by decide,rfl,by first|rfl|(rw[IntWalk.wrap64_in _ ⟨by decide,by decide⟩];rfl)⟩,by decide⟩)
   ·obtain rfl:k=8:=by omega
    by_cases hneg:v<0
    ·have HV2:=zH HV.out
     rw[if_pos hneg] at HV2
     clear HV
     go_wp2_with fail
     go_ret2
     exact bI.one HH.out HV2.out hat ⟨0,rfl⟩ (by omega)
    ·have HV2:=zH HV.out
     rw[if_neg hneg] at HV2
     have hneg2:decide (v<0)=false:=decide_eq_false hneg
     have hge:0≤v:=by omega
     obtain⟨r,HRR⟩:∃r,Hid (aQ v (bV 98 8:Int)=r):=⟨_,rfl⟩
     rw[HRR.out] at HV2
     clear HV
     go_wp2_with fail
     refine(tG HRR hge (by omega) (by decide) (by decide) _).mono ?_
     rintro e w1 ⟨rfl,q,rfl⟩
     go_wp2_with fail
     go_ret2
     exact bI.one HH.out HV2.out hat ⟨_,rfl⟩ (by omega)
 ·have hc:s[at_].toNat=99:=hc
  have hb:Hid (∀k:Nat,k<8→k=0∨k=1∨k=2∨k=3∨k=4∨k=5∨k=6∨k=7):=fun k hk=>by omega
  have HV:Hid (cG 3 (.thing (99-97)) v=if v<0 then-1 else aQ v (bV 99 8:Int)):=HV
  go_enter Tryz.func103,Tryz.ntmps103
  go_wp2_with fail
  go_loop [10,11] (fun v i=>∃k:Nat,k≤8∧i= .int .i64 k∧v= .int .i64 (bV 99 k)) (fun _ i=>8-(Go.RowKit.intOf i).toNat)
  case atStart=>exact⟨0,Nat.zero_le _,rfl,rfl⟩
  case round=>
   obtain⟨k,hk,rfl,rfl⟩:=hrel
   by_cases hlt:k<8
   ·have h8:=hb.out k hlt
    clear hk
    rcases h8 with rfl|rfl|rfl|rfl|rfl|rfl|rfl|rfl
    all_goals first
     |(exfalso;revert hlt;decide)
     |(clear hlt
       go_wp2_with fail
       exact⟨⟨_,by decide,rfl,by first|rfl|(rw[IntWalk.wrap64_in _ ⟨by decide,by decide⟩];rfl)⟩,by decide⟩)
   ·obtain rfl:k=8:=by omega
    by_cases hneg:v<0
    ·have HV2:=zH HV.out
     rw[if_pos hneg] at HV2
     clear HV
     go_wp2_with fail
     go_ret2
     exact bI.one HH.out HV2.out hat ⟨0,rfl⟩ (by omega)
    ·have HV2:=zH HV.out
     rw[if_neg hneg] at HV2
     have hneg2:decide (v<0)=false:=decide_eq_false hneg
     have hge:0≤v:=by omega
     obtain⟨r,HRR⟩:∃r,Hid (aQ v (bV 99 8:Int)=r):=⟨_,rfl⟩
     rw[HRR.out] at HV2
     clear HV
     go_wp2_with fail
     refine(tG HRR hge (by omega) (by decide) (by decide) _).mono ?_
     rintro e w1 ⟨rfl,q,rfl⟩
     go_wp2_with fail
     go_ret2
     exact bI.one HH.out HV2.out hat ⟨_,rfl⟩ (by omega)
def FK(t:Int)(k:Nat)(s:ByteArray):Prop:=∀(at_:Nat) (v:Int) (w:World),VR t v→at_≤s.size→s.size-at_≤k→
 Calls Tryz.prog 103 #[.int .i64 t,.int .i64 v,.string s,.int .i64 at_] w (XL t s (bJ t k ((aG s).drop at_)) v w)
theorem nQ{t:Int}{k:Nat}{s:ByteArray}(ih:FK t k s){at_:Nat}{v:Int}(hv:VR t v)(w:World)(hle:at_≤s.size)(hk:s.size-at_≤k)(h:bJ t k ((aG s).drop at_)=none):
  Calls Tryz.prog 103 #[.int .i64 t,.int .i64 v,.string s,.int .i64 at_] w (eR w):=by
 have:=ih at_ v w hv hle hk
 rw[h] at this;exact this
theorem gL{t:Int}{k:Nat}{s:ByteArray}(ih:FK t k s){at_:Nat}{v:Int}(hv:VR t v)(w:World)(hle:at_≤s.size)(hk:s.size-at_≤k){x:Ld}{rest:List Nat}(h:bJ t k ((aG s).drop at_)=some (x,rest)):
  Calls Tryz.prog 103 #[.int .i64 t,.int .i64 v,.string s,.int .i64 at_] w (bI t s x rest v w):=by
 have:=ih at_ v w hv hle hk
 rw[h] at this;exact this
theorem o9{t:Int}{k at_ a2 m:Nat}{s:ByteArray}{x:Ld}{l:List Nat}(h:bJ t k ((aG s).drop (at_+1))=some (x,m::l))(e:(aG s).drop a2=l)(hk:s.size-at_≤k+1):s.size-a2≤k:=by
 have:=uK t k _ _ _ h
 rw[←e,List.length_cons,List.length_drop,List.length_drop,bR] at this
 omega
theorem NU{t:Int}{k:Nat}{l:List Nat}(h:bJ t k l=none):kL t k l=none:=by unfold kL;rw[h]
theorem K0{t:Int}{k:Nat}{l:List Nat}(h:bJ t k l=none):cZ t k l=none:=by unfold cZ;rw[h]
theorem RY{t:Int}{k:Nat}{l:List Nat}{x:Ld}(h:bJ t k l=some (x,[])):kL t k l=none:=by unfold kL;rw[h]
theorem OV{t:Int}{k:Nat}{l:List Nat}{x:Ld}(h:bJ t k l=some (x,[])):cZ t k l=none:=by unfold cZ;rw[h]
theorem I4(t:Int)(s:ByteArray)(hs:s.size≤1048576)(h1:1≤t)(h3:t≤3):∀k,FK t k s:=by
 intro k
 induction k with
 |zero=>
  intro at_ v w hv hle hk
  exact J9 t s at_ v w hs (by omega)
 |succ k ih=>
  intro at_ v w hv hle hk
  by_cases hlt:at_<s.size
  ·have hd:=mA hlt
   rw[hd]
   obtain⟨c,hc⟩:∃c,s[at_].toNat=c:=⟨_,rfl⟩
   rw[hc]
   rcases hb:mI t c with _|_
   ·rw[F2 t k c _ hb]
    exact S1 t s at_ v w hs hv hlt (by rw[hc];exact hb)
   ·by_cases e33:c=33
    ·subst e33
     rw[AH]
     rcases g1:bJ t k ((aG s).drop (at_+1)) with _|⟨x,rest⟩
     ·exact IF t s at_ v w hs hv hlt hc fun W=>nQ ih hv W (by omega) (by omega) g1
     ·exact U9 t s at_ v w hs hv hlt hc x rest fun W=>gL ih hv W (by omega) (by omega) g1
    by_cases e91:c=91
    ·subst e91
     rw[x4]
     rcases g1:bJ t k ((aG s).drop (at_+1)) with _|⟨x,_|⟨m,l⟩⟩
     ·rw[NU g1]
      exact EW t s at_ v w hs hv hlt hc fun W=>nQ ih hv W (by omega) (by omega) g1
     ·rw[RY g1]
      exact IV t s at_ v w hs hv hlt hc x fun W=>gL ih hv W (by omega) (by omega) g1
     ·by_cases hm:m=93
      ·subst hm
       rcases g2:bJ t k l with _|⟨y,r⟩
       ·rw[show kL t k ((aG s).drop (at_+1))=none by unfold kL;rw[g1];simp only[if_true];rw[g2];rfl]
        exact K9 t s at_ v w hs hv hlt hc x l (fun W=>gL ih hv W (by omega) (by omega) g1) fun a2 u W hu ha e=>nQ ih hu W ha (o9 g1 e hk) (by rw[e];exact g2)
       ·rw[show kL t k ((aG s).drop (at_+1))=some (.pre x y,r) by unfold kL;rw[g1];simp only[if_true];rw[g2];rfl]
        exact S0 t s at_ v w hs hv hlt hc x y l r (fun W=>gL ih hv W (by omega) (by omega) g1) fun a2 u W hu ha e=>gL ih hu W ha (o9 g1 e hk) (by rw[e];exact g2)
      ·rw[show kL t k ((aG s).drop (at_+1))=none by unfold kL;rw[g1];simp only;rw[if_neg hm]]
       exact FG t s at_ v w hs hv hlt hc x m l (fun W=>gL ih hv W (by omega) (by omega) g1) hm
    by_cases e40:c=40
    ·subst e40
     rw[wJ]
     rcases g1:bJ t k ((aG s).drop (at_+1)) with _|⟨x,_|⟨m,l⟩⟩
     ·rw[K0 g1]
      exact D6 t s at_ v w hs hv hlt hc fun W=>nQ ih hv W (by omega) (by omega) g1
     ·rw[OV g1]
      exact F1 t s at_ v w hs hv hlt hc x fun W=>gL ih hv W (by omega) (by omega) g1
     ·have hi:=fun W=>gL ih hv W (by omega) (by omega) g1
      rcases hm:(decide (m=38)||decide (m=124)||decide (m=62)) with _|_
      ·have hno:cZ t k ((aG s).drop (at_+1))=none:=by
        unfold cZ
        rw[g1]
        simp only
        split
        ·split
         ·rw[DA hm];rfl
         ·rfl
        ·rfl
       rw[hno]
       exact DY t s at_ v w hs hv hlt hc x m l hi hm
      ·have hm3:m=38∨m=124∨m=62:=by simpa [or_assoc] using hm
       rcases g2:bJ t k l with _|⟨y,_|⟨e0,r⟩⟩
       ·rw[show cZ t k ((aG s).drop (at_+1))=none by unfold cZ;rw[g1];simp only;rw[g2]]
        have hi2:=fun(a2:Nat) (u:Int) (W:World) (hu:VR t u) (ha:a2≤s.size) (e:(aG s).drop a2=l)=>nQ ih hu W ha (o9 g1 e hk) (by rw[e];exact g2)
        rcases hm3 with rfl|rfl|rfl
        ·exact IE t s at_ v w hs hv hlt hc x l hi hi2
        ·exact MF t s at_ v w hs hv hlt hc x l hi hi2
        ·exact LG t s at_ v w hs hv hlt hc x l hi hi2
       ·rw[show cZ t k ((aG s).drop (at_+1))=none by unfold cZ;rw[g1];simp only;rw[g2]]
        have hi2:=fun(a2:Nat) (u:Int) (W:World) (hu:VR t u) (ha:a2≤s.size) (e:(aG s).drop a2=l)=>gL ih hu W ha (o9 g1 e hk) (by rw[e];exact g2)
        rcases hm3 with rfl|rfl|rfl
        ·exact E9 t s at_ v w hs hv hlt hc x y l hi hi2
        ·exact H0 t s at_ v w hs hv hlt hc x y l hi hi2
        ·exact IX t s at_ v w hs hv hlt hc x y l hi hi2
       ·have hi2:=fun(a2:Nat) (u:Int) (W:World) (hu:VR t u) (ha:a2≤s.size) (e:(aG s).drop a2=l)=>gL ih hu W ha (o9 g1 e hk) (by rw[e];exact g2)
        by_cases he:e0=41
        ·subst he
         rcases hm3 with rfl|rfl|rfl
         ·rw[show cZ t k ((aG s).drop (at_+1))=some (.and_ x y,r) by unfold cZ;rw[g1];simp only;rw[g2];rfl]
          exact PG t s at_ v w hs hv hlt hc x y l r hi hi2
         ·rw[show cZ t k ((aG s).drop (at_+1))=some (.or_ x y,r) by unfold cZ;rw[g1];simp only;rw[g2];rfl]
          exact S9 t s at_ v w hs hv hlt hc x y l r hi hi2
         ·rw[show cZ t k ((aG s).drop (at_+1))=some (.if_ x y,r) by unfold cZ;rw[g1];simp only;rw[g2];rfl]
          exact TB t s at_ v w hs hv hlt hc x y l r hi hi2
        ·rw[show cZ t k ((aG s).drop (at_+1))=none by unfold cZ;rw[g1];simp only;rw[g2];simp only;rw[if_neg he]]
         rcases hm3 with rfl|rfl|rfl
         ·exact D2 t s at_ v w hs hv hlt hc x y l e0 r hi hi2 he
         ·exact GQ t s at_ v w hs hv hlt hc x y l e0 r hi hi2 he
         ·exact FL t s at_ v w hs hv hlt hc x y l e0 r hi hi2 he
    ·have hb2:=hb
     unfold mI at hb2
     simp only[Bool.or_eq_true,decide_eq_true_eq] at hb2
     by_cases e49:c=49
     ·subst e49
      exact SY t s at_ v w hs hv hlt hc
     by_cases e48:c=48
     ·subst e48
      exact QX t s at_ v w hs hv hlt hc
     ·have h4:97≤c∧(c:Int)-97<t:=by omega
      obtain⟨i,rfl⟩:∃i,c=97+i:=⟨c-97,by omega⟩
      rw[show bJ t (k+1) ((97+i)::(aG s).drop (at_+1))=some (.thing i,(aG s).drop (at_+1)) by
       unfold bJ
       rw[if_neg e49,if_neg e48,if_pos h4]
       congr 3;omega]
      exact LD t s at_ v w hs hv hlt i hc h1 h3 (by omega)
  ·rw[List.drop_eq_nil_of_le (by rw[bR];omega),yD]
   exact J9 t s at_ v w hs (by omega)
theorem yO{t:Int}{s:ByteArray}(h:t<1∨3<t∨60<s.size):rZ t s=none:=by
 unfold rZ mD
 rw[if_neg (by rw[bR];omega)]
theorem F3{t:Int}{s:ByteArray}(h1:1≤t)(h3:t≤3)(hs:s.size≤60):rZ t s=match bJ t s.size (aG s) with|some (x,[])=>some x|_=>none:=by
 unfold rZ mD
 rw[if_pos (by rw[bR];omega),bR]
 rcases bJ t s.size (aG s) with _|⟨x,_|⟨c,r⟩⟩<;>rfl
theorem D9{t:Int}{s:ByteArray}{x:Ld}(h:rZ t s=some x):1≤t∧t≤3∧s.size≤60∧bJ t s.size (aG s)=some (x,[]):=by
 obtain⟨h1,h3,hs,_⟩:=VC h
 rw[F3 h1 h3 hs] at h
 refine⟨h1,h3,hs,?_⟩
 split at h
 ·cases h;assumption
 ·cases h
theorem VR.zero(t:Int):VR t 0:=⟨by omega,(bH t).1⟩
theorem VR.set{t k:Int}(h:aO t k=true):VR t k:=by
 obtain⟨_,_,h0,ha,_⟩:=aZ h
 exact⟨by omega,ha⟩
def SH(b:Bool)(w:World)(e:Ending)(w' :World):Prop:=e= .returned (.bool b)∧∃n,w' =w.drewN n
theorem DL(t:Int)(s:ByteArray)(w:World)(hs:s.size≤9223372036854775807):
  Calls Tryz.prog 68 #[.int .i64 t,.string s] w (SH (cY t s) w):=by
 have hnot:∀(x:Bool) (w:World),(Op.unary .not (.bool x)).run Tryz.prog w= .ok (.bool (!x)) w:=fun _ _=>rfl
 by_cases h1:t<1∨3<t
 ·rw[show cY t s=false by unfold cY;rw[yO (by omega)];rfl]
  have H:=zH h1
  clear h1
  go_enter Tryz.func68,Tryz.ntmps68
  go_wp2_with (go_at_call 98;refine(n4 _ _ _ _ H.out).mono ?_;rintro e w' ⟨rfl,rfl⟩)
  go_ret
  exact⟨rfl,0,rfl⟩
 ·have ht1:1≤t:=by omega
  have ht3:t≤3:=by omega
  have HIN:=zH (⟨ht1,ht3⟩:1≤t∧t≤3)
  by_cases h60:60<s.size
  ·rw[show cY t s=false by unfold cY;rw[yO (by omega)];rfl]
   have hd:decide ((60:Int)<(s.size:Int))=true:=decide_eq_true (by omega)
   clear h1 h60
   go_enter Tryz.func68,Tryz.ntmps68
   go_wp2_with (go_at_call 98;refine(hV _ _ _ _ HIN.out.1 HIN.out.2).mono ?_;rintro e w' ⟨rfl,rfl⟩)
   go_ret
   exact⟨rfl,0,rfl⟩
  ·have hd:decide ((60:Int)<(s.size:Int))=false:=decide_eq_false (by omega)
   have hsz:s.size≤60:=by omega
   have hrd:=F3 (s:=s) ht1 ht3 hsz
   have hread:=I4 t s (by omega) ht1 ht3 s.size 0 0 w (VR.zero t) (by omega) (by omega)
   rw[List.drop_zero] at hread
   rcases hr:bJ t s.size (aG s) with _|⟨x,_|⟨c,r⟩⟩
   ·rw[hr] at hrd hread
    rw[show cY t s=false by unfold cY;rw[hrd];rfl]
    have HI:Hid (Calls Tryz.prog 103 #[.int .i64 t,.int .i64 0,.string s,.int .i64 0] w (eR w)):=hread
    have hne:((-1:Int)==(s.size:Int))=false:=by rw[beq_eq_false_iff_ne];omega
    clear hread hrd hr h60 h1
    go_enter Tryz.func68,Tryz.ntmps68
    go_wp2_with (first
     |(go_at_call 98;refine(hV _ _ _ _ HIN.out.1 HIN.out.2).mono ?_;rintro e w' ⟨rfl,rfl⟩)
     |(go_at_call 103;refine HI.out.mono ?_;clear HI;rintro e w' ⟨rfl,q,rfl⟩))
    go_ret
    exact⟨rfl,_,rfl⟩
   ·rw[hr] at hrd hread
    rw[show cY t s=true by unfold cY;rw[hrd];rfl]
    have HI:Hid (Calls Tryz.prog 103 #[.int .i64 t,.int .i64 0,.string s,.int .i64 0] w (bI t s x [] 0 w)):=hread
    clear hread hrd hr h60 h1
    have hee:((s.size:Int)==(s.size:Int))=true:=by simp
    go_enter Tryz.func68,Tryz.ntmps68
    go_wp2_with (first
     |(go_at_call 98;refine(hV _ _ _ _ HIN.out.1 HIN.out.2).mono ?_;rintro e w' ⟨rfl,rfl⟩)
     |(go_at_call 103;refine HI.out.mono ?_;clear HI;rintro e w' ⟨u,a2,rfl,_,_,_,ha2,hdr,q,rfl⟩;obtain rfl:=eH hdr ha2;clear hdr))
    go_ret
    exact⟨rfl,_,rfl⟩
   ·rw[hr] at hrd hread
    rw[show cY t s=false by unfold cY;rw[hrd];rfl]
    have HI:Hid (Calls Tryz.prog 103 #[.int .i64 t,.int .i64 0,.string s,.int .i64 0] w (bI t s x (c::r) 0 w)):=hread
    clear hread hrd hr h60 h1
    go_enter Tryz.func68,Tryz.ntmps68
    go_wp2_with (first
     |(go_at_call 98;refine(hV _ _ _ _ HIN.out.1 HIN.out.2).mono ?_;rintro e w' ⟨rfl,rfl⟩)
     |(go_at_call 103;refine HI.out.mono ?_;clear HI;rintro e w' ⟨u,a2,rfl,_,_,_,ha2,hdr,q,rfl⟩;obtain⟨hlt,_,_⟩:=aW hdr;have hne:((a2:Int)==(s.size:Int))=false:=(by rw[beq_eq_false_iff_ne];omega);clear hdr))
    go_ret
    exact⟨rfl,_,rfl⟩
theorem wO{t:Int}{s:ByteArray}{b:Bool}(h:Hid (cY t s=b))(w:World)(hs:s.size≤9223372036854775807):
  Calls Tryz.prog 68 #[.int .i64 t,.string s] w fun e w' =>e= .returned (.bool b)∧∃n,w' =w.drewN n:=
 (DL t s w hs).mono fun _ _ ⟨he,hw⟩=>⟨he.trans (aM h.out),hw⟩
def lR(o:Option Int)(w:World)(e:Ending)(w' :World):Prop:=e= .returned (.tuple #[.int .i64 (o.getD (-1)),.bool o.isSome])∧∃n,w' =w.drewN n
theorem lR.no{o:Option Int}(h:o=none){w w' :World}(hb:∃n,w' =w.drewN n):lR o w (.returned (.tuple #[.int .i64 (-1),.bool false])) w' :=by subst h;exact⟨rfl,hb⟩
theorem lR.yes{o:Option Int}{u:Int}(h:o=some u){w w' :World}(hb:∃n,w' =w.drewN n):lR o w (.returned (.tuple #[.int .i64 u,.bool true])) w' :=by subst h;exact⟨rfl,hb⟩
theorem TJ{t:Int}{x:Ld}{v u:Int}(h0:0≤v)(h8:v<256)(h:cG t x v=u)(hu:u<0):aT t x v=none:=by
 cases hc:aT t x v with
 |none=>rfl
 |some z=>
  have:=j9 h0 h8 hc
  rw[iU h0 hc] at h
  omega
theorem S7{t:Int}{x:Ld}{v u:Int}(h0:0≤v)(h:cG t x v=u)(hu:0≤u):aT t x v=some u:=by
 cases hc:aT t x v with
 |none=>rw[fO hc] at h;omega
 |some z=>rw[iU h0 hc] at h;rw[h]
theorem KU(t k:Int)(s:ByteArray)(w:World)(hs:s.size≤9223372036854775807):
  Calls Tryz.prog 69 #[.int .i64 t,.int .i64 k,.string s] w (lR (eJ t k s) w):=by
 have hnot:∀(x:Bool) (w:World),(Op.unary .not (.bool x)).run Tryz.prog w= .ok (.bool (!x)) w:=fun _ _=>rfl
 rcases hset:aO t k with _|_
 ·have HS:=zH hset
  have HC:Hid (eJ t k s=none):=by
   unfold Hid eJ
   split
   ·rw[hset];rfl
   ·rfl
  clear hset
  go_enter Tryz.func69,Tryz.ntmps69
  go_wp2_with (go_at_call 89;refine(jD HS _).mono ?_;rintro e w' ⟨rfl,rfl⟩)
  go_ret2
  exact lR.no HC.out ⟨0,rfl⟩
 ·have HS:=zH hset
  rcases hx:rZ t s with _|x
  ·have HL:Hid (cY t s=false):=by unfold Hid cY;rw[hx];rfl
   have HC:Hid (eJ t k s=none):=by unfold Hid eJ;rw[hx]
   clear hset hx
   go_enter Tryz.func69,Tryz.ntmps69
   go_wp2_with (first
    |(go_at_call 89;refine(jD HS _).mono ?_;rintro e w' ⟨rfl,rfl⟩)
    |(go_at_call 68;refine(wO HL _ hs).mono ?_;rintro e w' ⟨rfl,q,rfl⟩))
   go_ret2
   exact lR.no HC.out ⟨_,rfl⟩
  ·have HL:Hid (cY t s=true):=by unfold Hid cY;rw[hx];rfl
   have HC:Hid (eJ t k s=aT t x k):=by unfold Hid eJ;rw[hx];simp only;rw[hset];rfl
   obtain⟨_,_,hk0,hka,hk8⟩:=aZ hset
   obtain⟨h1,h3,hs60,hr⟩:=D9 hx
   have HI:Hid (∀W,Calls Tryz.prog 103 #[.int .i64 t,.int .i64 k,.string s,.int .i64 0] W (bI t s x [] k W)):=fun W=>by
    have hread:=I4 t s (by omega) h1 h3 s.size 0 k W (VR.set hset) (by omega) (by omega)
    rw[List.drop_zero,hr] at hread
    exact hread
   clear hset hx hr
   go_enter Tryz.func69,Tryz.ntmps69
   go_wp2_with (first
    |(go_at_call 89;refine(jD HS _).mono ?_;rintro e w' ⟨rfl,rfl⟩)
    |(go_at_call 68;refine(wO HL _ hs).mono ?_;rintro e w' ⟨rfl,q,rfl⟩))
   refine(HI.out _).mono ?_
   rintro e w' ⟨u,a2,rfl,HU,hu,hu2,ha2,hdr,q2,rfl⟩
   have hu3:=hu.1
   clear hdr hu hu2
   by_cases hneg:u<0
   ·have HN:=zH (HC.out.trans (TJ hk0 hk8 HU.out hneg))
    go_wp2_with fail
    go_ret2
    exact lR.no HN.out ⟨_,by first|rfl|rw[World.drewN_drewN]⟩
   ·have HN:=zH (HC.out.trans (S7 hk0 HU.out (by omega)))
    have hd:decide (u<0)=false:=decide_eq_false hneg
    go_wp2_with fail
    go_ret2
    exact lR.yes HN.out ⟨_,by first|rfl|rw[World.drewN_drewN]⟩
def U5(X:aL)(b:Bool)(W:World)(e:Ending)(w' :World):Prop:=∃A n c B m d,e= .returned (.tuple #[.agg #[.int .i64 X.things,.int .i64 X.now.known,.slice A n c,.slice B m d],.bool b])∧dL w' W.heap.size X A n c B m d∧Below W.heap.size W w'
theorem ML{T X:aL}{A B:Option Addr}{n c m d:Nat}{kind:Int}{text:ByteArray}{b:Bool}{w:World}(h:Hid (dN T kind text=(X,b)))(hT:bN w T A n c B m d)(hs:cD T)(hx:text.size≤1048576):
  Calls Tryz.prog 61 #[.agg #[.int .i64 T.things,.int .i64 T.now.known,.slice A n c,.slice B m d],.agg #[.int .i64 kind,.string text]] w (U5 X b w):=by
 have:=BS T A B n c m d kind text w hT hs hx
 rw[h.out] at this
 refine this.mono ?_
 rintro e w' ⟨A',n',c',B',m',d',rfl,hown,hb⟩
 exact⟨A',n',c',B',m',d',rfl,hown.1,hb⟩
def pK(lo h:Nat)(w0 W:World):Prop:=w0.heap.size≤W.heap.size∧∀k,k<w0.heap.size→lo≤k→k≠h→W.heap[k]? =w0.heap[k]?
theorem pK.refl(lo h:Nat)(w:World):pK lo h w w:=⟨Nat.le_refl _,fun _ _ _ _=>rfl⟩
theorem pK.trans{lo h:Nat}{w w1 w2:World}(h1:pK lo h w w1)(h2:pK lo h w1 w2):pK lo h w w2:=⟨Nat.le_trans h1.1 h2.1,fun k hk hl hn=>(h2.2 k (Nat.lt_of_lt_of_le hk h1.1) hl hn).trans (h1.2 k hk hl hn)⟩
theorem pK.of_below{lo h:Nat}{w w1:World}(hb:Below w.heap.size w w1):pK lo h w w1:=⟨hb.size,fun k hk _ _=>hb.block k hk⟩
theorem pK.of_exc{lo h:Nat}{w w1:World}(he:fI h w w1):pK lo h w w1:=⟨he.1,fun k hk _ hn=>he.2 k hk hn⟩
theorem YS{lo lo0 h:Nat}{w:World}{X:aL}{A B:Option Addr}{n c m d:Nat}(hi:dL w lo X A n c B m d)(h1:lo0≤lo)(h2:h<lo):∀W,pK lo0 h w W→bN W X A n c B m d:=fun W hW=>hi W ⟨hW.1,fun k a1 a2=>hW.2 k a2 (by omega) (by omega)⟩
theorem WD{lo lo0:Nat}{w w3:World}{X:aL}{A B:Option Addr}{n c m d:Nat}(hi:dL w lo X A n c B m d)(h1:lo0≤lo)(hb:Below w.heap.size w w3):∀W,pK lo0 w.heap.size w3 W→bN W X A n c B m d:=fun W hW=>hi W ⟨Nat.le_trans hb.size hW.1,fun k a1 a2=>(hW.2 k (Nat.lt_of_lt_of_le a2 hb.size) (by omega) (by omega)).trans (hb.block k a2)⟩
theorem ZA{b h lo0:Nat}{w w' :World}{X:aL}{A B:Option Addr}{n c m d:Nat}(hat:∀W,pK lo0 h w W→bN W X A n c B m d)(hl:b<lo0)(hk:aX lo0 w w'):dL w' b X A n c B m d:=fun W hW=>hat W ⟨Nat.le_trans hk.1 hW.1,fun k a1 a2 _=>(hW.2 k (by omega) (Nat.lt_of_lt_of_le a1 hk.1)).trans (hk.2 k a2 a1)⟩
def vD(v:Nat):UInt8:=(48+v).toUInt8
theorem qQ{W:World}{h v:Nat}(hc:W.cell? ⟨h,0,none⟩=some (.int .u8 (48+(v:Int)))):(convert 22 9 (.slice (some ⟨h,0,none⟩) 1 1)).run Tryz.prog W= .ok (.string (cJ [vD v])) W:=by
 unfold vD
 rw[run_convert_bytes_arg W 22 5 Tryz.underlying22 Tryz.underlying5 h 0 1 1 [48+(v:Int)] rfl (fun i hi=>by
    obtain rfl:i=0:=by omega
    exact hc) _ Tryz.underlying9]
 have e:(48+(v:Int)).toNat=48+v:=by omega
 simp only[strOfNums,cJ,List.map_cons,List.map_nil,e]
theorem SR(n:Nat):(fS n).length≤n+1:=by
 induction n using Nat.strongRecOn with
 |_ n ih=>
  rw[fS]
  by_cases h:n<10
  ·rw[if_pos h];exact Nat.succ_le_succ (Nat.zero_le _)
  ·rw[if_neg h,List.length_append]
   have:=ih (n / 10) (by omega)
   simp only[List.length_cons,List.length_nil]
   omega
def SA(w:World)(h r:Nat):Prop:=h<w.heap.size∧w.cell? ⟨h,0,none⟩=some (.int .u8 (48+(r:Int)))
theorem SA.below{w w' :World}{h r:Nat}(hd:SA w h r)(hb:Below w.heap.size w w'):SA w' h r:=⟨Nat.lt_of_lt_of_le hd.1 hb.size,(Below.cell hb (p:=⟨h,0,none⟩) hd.1).trans hd.2⟩
theorem JC{w W:World}(r:Nat)(hB:Below w.heap.size w W):∃wz,W.alloc (.cells #[.int .u8 (48+(r:Int))] 5)=wz∧Hid (SA wz W.heap.size r)∧Hid (Below w.heap.size w wz):=
 ⟨_,rfl,⟨by rw[World.size_alloc];exact Nat.lt_succ_self _,(Boxed.new W 5 (.int .u8 (48+(r:Int)))).cell⟩,hB.alloc hB.size _⟩
theorem GH(a b:List UInt8):cJ a++cJ b=cJ (a++b):=gI (by unfold bL cJ;rw[ByteArray.data_append,Array.toList_append])
set_option linter.unusedSimpArgs false in
theorem CL(n:Nat)(hn:n≤1048576):∀w:World,Calls Tryz.prog 62 #[.int .i64 n] w fun e w' =>e= .returned (.string (cJ (fS n)))∧Below w.heap.size w w' :=by
 induction n using Nat.strongRecOn with
 |_ n ih=>
  intro w
  by_cases h:n<10
  ·have hd:decide ((n:Int)<10)=true:=decide_eq_true (by omega)
   have HNU:Hid (fS n=[vD n]):=by unfold Hid vD;rw[fS,if_pos h]
   have hw:IntKind.i64.wrap (48+(n:Int))=48+n:=IntWalk.i64_in _ (by omega)
   have hw8:IntKind.u8.wrap (48+(n:Int))=48+n:=IntWalk.u8_in _ (by omega)
   have hcv:=qQ (W:=w.alloc (.cells #[.int .u8 (48+(n:Int))] 5)) (h:=w.heap.size) (v:=n) (Boxed.new w 5 (.int .u8 (48+(n:Int)))).cell
   clear h ih hn
   go_enter Tryz.func62,Tryz.ntmps62
   go_wp2_with fail
   go_ret
   exact⟨by rw[HNU.out];rfl,(Below.refl _ w).alloc (Nat.le_refl _) _⟩
  ·have hd:decide ((n:Int)<10)=false:=decide_eq_false (by omega)
   obtain⟨p,hp⟩:∃p,n / 10=p:=⟨_,rfl⟩
   obtain⟨r,hr⟩:∃r,n%10=r:=⟨_,rfl⟩
   have HNU:Hid (fS n=fS p++[vD r]):=by unfold Hid vD;rw[fS,if_neg h,hp,hr]
   have HIH:=zH (ih p (by omega) (by omega))
   have hq:(n:Int).tdiv 10=(p:Int):=by rw[Int.tdiv_eq_ediv_of_nonneg (by omega)];omega
   have hm:(n:Int).tmod 10=(r:Int):=by rw[Int.tmod_eq_emod_of_nonneg (by omega)];omega
   have hq2:IntKind.i64.wrap (p:Int)=p:=IntWalk.i64_in _ (by omega)
   have hm2:IntKind.i64.wrap (r:Int)=r:=IntWalk.i64_in _ (by omega)
   have hw:IntKind.i64.wrap (48+(r:Int))=48+r:=IntWalk.i64_in _ (by omega)
   have hw8:IntKind.u8.wrap (48+(r:Int))=48+r:=IntWalk.u8_in _ (by omega)
   have hsz:¬(9223372036854775807<(cJ (fS p)).size+(cJ [vD r]).size):=by
    have h1:(cJ (fS p)).size=(fS p).length:=rfl
    have h2:(cJ [vD r]).size=1:=rfl
    have h3:=SR p
    omega
   clear h ih hn hp hr
   go_enter Tryz.func62,Tryz.ntmps62
   go_upto_region 3 with fail
   refine wp_region_held_drew (S:=(fun W=>Below w.heap.size w W)) (by kernel_rfl) ?_ (fun hHeld=> ?_)
   ·exact aE (Below.refl _ _) 1
   have HB:Hid (Below w.heap.size w w.drew):=aE (Below.refl _ _) 1
   obtain⟨wd,hwd⟩:∃wd,w.drew=wd:=⟨_,rfl⟩
   rw[hwd] at HB hHeld⊢
   clear hwd
   refine zT 0 (h:=?_)
   try simp only[Act.put,zS]
   refine zT 1 (h:=?_)
   try simp only[Act.put,zS]
   refine zT 3 (h:=?_)
   try simp only[Act.put,zS]
   refine zT 4 (h:=?_)
   try simp only[Act.put,zS]
   refine zT 5 (h:=?_)
   try simp only[Act.put,zS]
   refine zT 6 (h:=?_)
   try simp only[Act.put,zS]
   refine wpAnyH_ready (rs:=[2,7]) (by kernel_rfl) (by simp) ?_
   refine AllReadyH.cons rfl (fun K hK=> ?_) ?_
   ·(go_simp;go_at_call 62;refine(HIH.out _).mono ?_;rintro e wc ⟨rfl,hb⟩;replace HB:=zH (aA HB.out hb);(try replace HD:=zH (HD.out.below hb));clear hb)
    refine hK.out _ _ ?_ (fun hHeld=> ?_)
    ·exact HB.out
    clear hK K
    try simp only[Act.put,zS]
    refine wpAnyH_ready (rs:=[7]) (by kernel_rfl) (by simp) ?_
    refine AllReadyH.cons rfl (fun K hK=> ?_) ?_
    ·(go_simp;obtain⟨wz,hwz,HD,HBn⟩:=JC r HB.out;rw[hwz];replace HB:=HBn;clear hwz)
     refine hK.out _ _ ?_ (fun hHeld=> ?_)
     ·exact HB.out
     clear hK K
     try simp only[Act.put,zS]
     refine wpAnyH_ready (rs:=[8]) (by kernel_rfl) (by simp) ?_
     refine AllReadyH.cons rfl (fun K hK=> ?_) ?_
     ·(have hcv:=qQ HD.out.2;go_simp;clear hcv)
      refine hK.out _ _ ?_ (fun hHeld=> ?_)
      ·exact HB.out
      clear hK K
      try simp only[Act.put,zS]
      refine zT 9 (h:=?_)
      try simp only[Act.put,zS]
      refine wpAnyH_ready (rs:=[10]) (by kernel_rfl) (by simp) ?_
      refine AllReadyH.cons rfl (fun K hK=> ?_) ?_
      ·go_simp
       refine hK.out _ _ ?_ (fun hHeld=> ?_)
       ·exact HB.out
       clear hK K
       try simp only[Act.put,zS]
       refine wpAnyH_done (by kernel_rfl) ?_ _
       go_wp2_with fail
       go_ret
       exact⟨congrArg (fun s=>Ending.returned (.string s)) ((GH _ _).trans (by rw[HNU.out])),HB.out⟩
      exact AllReadyH.nil
     exact AllReadyH.nil
    exact AllReadyH.nil
   refine AllReadyH.cons rfl (fun K hK=> ?_) ?_
   ·(go_simp;obtain⟨wz,hwz,HD,HBn⟩:=JC r HB.out;rw[hwz];replace HB:=HBn;clear hwz)
    refine hK.out _ _ ?_ (fun hHeld=> ?_)
    ·exact HB.out
    clear hK K
    try simp only[Act.put,zS]
    refine wpAnyH_ready (rs:=[2,8]) (by kernel_rfl) (by simp) ?_
    refine AllReadyH.cons rfl (fun K hK=> ?_) ?_
    ·(go_simp;go_at_call 62;refine(HIH.out _).mono ?_;rintro e wc ⟨rfl,hb⟩;replace HB:=zH (aA HB.out hb);(try replace HD:=zH (HD.out.below hb));clear hb)
     refine hK.out _ _ ?_ (fun hHeld=> ?_)
     ·exact HB.out
     clear hK K
     try simp only[Act.put,zS]
     refine wpAnyH_ready (rs:=[8]) (by kernel_rfl) (by simp) ?_
     refine AllReadyH.cons rfl (fun K hK=> ?_) ?_
     ·(have hcv:=qQ HD.out.2;go_simp;clear hcv)
      refine hK.out _ _ ?_ (fun hHeld=> ?_)
      ·exact HB.out
      clear hK K
      try simp only[Act.put,zS]
      refine zT 9 (h:=?_)
      try simp only[Act.put,zS]
      refine wpAnyH_ready (rs:=[10]) (by kernel_rfl) (by simp) ?_
      refine AllReadyH.cons rfl (fun K hK=> ?_) ?_
      ·go_simp
       refine hK.out _ _ ?_ (fun hHeld=> ?_)
       ·exact HB.out
       clear hK K
       try simp only[Act.put,zS]
       refine wpAnyH_done (by kernel_rfl) ?_ _
       go_wp2_with fail
       go_ret
       exact⟨congrArg (fun s=>Ending.returned (.string s)) ((GH _ _).trans (by rw[HNU.out])),HB.out⟩
      exact AllReadyH.nil
     exact AllReadyH.nil
    refine AllReadyH.cons rfl (fun K hK=> ?_) ?_
    ·(have hcv:=qQ HD.out.2;go_simp;clear hcv)
     refine hK.out _ _ ?_ (fun hHeld=> ?_)
     ·exact HB.out
     clear hK K
     try simp only[Act.put,zS]
     refine wpAnyH_ready (rs:=[2]) (by kernel_rfl) (by simp) ?_
     refine AllReadyH.cons rfl (fun K hK=> ?_) ?_
     ·(go_simp;go_at_call 62;refine(HIH.out _).mono ?_;rintro e wc ⟨rfl,hb⟩;replace HB:=zH (aA HB.out hb);(try replace HD:=zH (HD.out.below hb));clear hb)
      refine hK.out _ _ ?_ (fun hHeld=> ?_)
      ·exact HB.out
      clear hK K
      try simp only[Act.put,zS]
      refine zT 9 (h:=?_)
      try simp only[Act.put,zS]
      refine wpAnyH_ready (rs:=[10]) (by kernel_rfl) (by simp) ?_
      refine AllReadyH.cons rfl (fun K hK=> ?_) ?_
      ·go_simp
       refine hK.out _ _ ?_ (fun hHeld=> ?_)
       ·exact HB.out
       clear hK K
       try simp only[Act.put,zS]
       refine wpAnyH_done (by kernel_rfl) ?_ _
       go_wp2_with fail
       go_ret
       exact⟨congrArg (fun s=>Ending.returned (.string s)) ((GH _ _).trans (by rw[HNU.out])),HB.out⟩
      exact AllReadyH.nil
     exact AllReadyH.nil
    exact AllReadyH.nil
   exact AllReadyH.nil
end Go.Proofs.YtfhjcacfchkdpaaGreatDoor

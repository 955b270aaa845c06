/-
  What the proofs of this seat's statements share (LdsR).
-/
import Derived.Test.YtfhjcacfchkdpaaGreatDoorU30
set_option maxRecDepth 100000
set_option maxHeartbeats 32000000
namespace Go.Proofs.YtfhjcacfchkdpaaGreatDoor
open Go.RowKit
def VR(t v:Int):Prop:= -1≤v∧v≤aJ t
def eR(w:World)(e:Ending)(w' :World):Prop:=e= .returned (.tuple #[.int .i64 (-1),.int .i64 (-1)])∧∃n,w' =w.drewN n
def bI(t:Int)(s:ByteArray)(x:Ld)(rest:List Nat)(v:Int)(w:World)(e:Ending)(w' :World):Prop:=
 ∃(u:Int) (a2:Nat),e= .returned (.tuple #[.int .i64 u,.int .i64 a2])∧Hid (cG t x v=u)∧VR t u∧u≤max v (-1)∧a2≤s.size∧(aG s).drop a2=rest∧∃n,w' =w.drewN n
def XL(t:Int)(s:ByteArray)(o:Option (Ld×List Nat))(v:Int)(w:World)(e:Ending)(w' :World):Prop:=
 match o with
 |some (x,rest)=>bI t s x rest v w e w'
 |none=>eR w e w'
theorem VR.lt{t v:Int}(h:VR t v): -1≤v∧v<256:=⟨h.1,by have:=(bH t).2;have:=h.2;omega⟩
theorem bI.of{t:Int}{s:ByteArray}{x:Ld}{rest:List Nat}{v u:Int}{a2:Nat}{w w' :World}(hv:VR t v)(h:cG t x v=u)(ha:a2≤s.size)(hd:(aG s).drop a2=rest)(hw:∃n,w' =w.drewN n):
  bI t s x rest v w (.returned (.tuple #[.int .i64 u,.int .i64 a2])) w' :=by
 have hr:=N8 t x (v:=v) hv.lt.2
 rw[h] at hr
 have:=(bH t).1
 have:=hv.1
 have:=hv.2
 exact⟨u,a2,rfl,h,⟨hr.1,by omega⟩,hr.2,ha,hd,hw⟩
theorem bI.one{t:Int}{s:ByteArray}{x:Ld}{v u:Int}{at_:Nat}{w w' :World}(hv:VR t v)(h:cG t x v=u)(hat:at_<s.size)(hw:∃n,w' =w.drewN n){b:Int}(hb:b=(at_:Int)+1):
  bI t s x ((aG s).drop (at_+1)) v w (.returned (.tuple #[.int .i64 u,.int .i64 b])) w' :=by
 obtain rfl:b=((at_+1:Nat):Int):=by omega
 exact bI.of hv h (by omega) rfl hw
theorem J9(t:Int)(s:ByteArray)(at_:Nat)(v:Int)(w:World)(_hs:s.size≤1048576)(hat:s.size≤at_):Calls Tryz.prog 103 #[.int .i64 t,.int .i64 v,.string s,.int .i64 at_] w (eR w):=by
 have hd:(s.size:Int)≤(at_:Int):=by omega
 go_enter Tryz.func103,Tryz.ntmps103
 go_wp2_with fail
 go_ret2
 exact⟨rfl,0,rfl⟩
theorem SY(t:Int)(s:ByteArray)(at_:Nat)(v:Int)(w:World)(hs:s.size≤1048576)(hv:VR t v)(hat:at_<s.size)(hc:s[at_].toNat=49):
  Calls Tryz.prog 103 #[.int .i64 t,.int .i64 v,.string s,.int .i64 at_] w (bI t s .one ((aG s).drop (at_+1)) v w):=by
 have hd:(at_:Int)<(s.size:Int):=by omega
 have hd0:(0:Int)≤(at_:Int):=by omega
 go_enter Tryz.func103,Tryz.ntmps103
 go_wp2_with fail
 go_ret2
 exact bI.one hv (S6 hv.1) hat ⟨0,rfl⟩ (by omega)
theorem QX(t:Int)(s:ByteArray)(at_:Nat)(v:Int)(w:World)(hs:s.size≤1048576)(hv:VR t v)(hat:at_<s.size)(hc:s[at_].toNat=48):
  Calls Tryz.prog 103 #[.int .i64 t,.int .i64 v,.string s,.int .i64 at_] w (bI t s .zero ((aG s).drop (at_+1)) v w):=by
 have hd:(at_:Int)<(s.size:Int):=by omega
 have hd0:(0:Int)≤(at_:Int):=by omega
 have HV:=zH (RH (t:=t) hv.1)
 have HH:=zH hv
 clear hv
 go_enter Tryz.func103,Tryz.ntmps103
 go_wp2_with fail
 all_goals
  go_ret2
  exact bI.one HH.out (HV.out.trans (by first|rfl|omega)) hat ⟨0,rfl⟩ (by omega)
theorem S1(t:Int)(s:ByteArray)(at_:Nat)(v:Int)(w:World)(_hs:s.size≤1048576)(_hv:VR t v)(hat:at_<s.size)(hb:mI t s[at_].toNat=false):
  Calls Tryz.prog 103 #[.int .i64 t,.int .i64 v,.string s,.int .i64 at_] w (eR w):=by
 have hd:(at_:Int)<(s.size:Int):=by omega
 have hd0:(0:Int)≤(at_:Int):=by omega
 obtain⟨c,hc⟩:∃c,s[at_].toNat=c:=⟨_,rfl⟩
 have hc256:c<256:=by rw[←hc];exact UInt8.toNat_lt _
 rw[hc] at hb
 unfold mI at hb
 simp only[Bool.or_eq_false_iff,decide_eq_false_iff_not] at hb
 have e49:((c:Int)==49)=false:=by rw[beq_eq_false_iff_ne];omega
 have e48:((c:Int)==48)=false:=by rw[beq_eq_false_iff_ne];omega
 have e33:((c:Int)==33)=false:=by rw[beq_eq_false_iff_ne];omega
 have e91:((c:Int)==91)=false:=by rw[beq_eq_false_iff_ne];omega
 have e40:((c:Int)==40)=false:=by rw[beq_eq_false_iff_ne];omega
 skip
 by_cases h97:97≤c
 ·have h97i:(97:Int)≤(c:Int):=by omega
  have ht:t≤(c:Int)-97:=by omega
  have hdt:decide ((c:Int)-97<t)=false:=decide_eq_false (by omega)
  clear hb
  go_enter Tryz.func103,Tryz.ntmps103
  go_wp2_with fail
  go_ret2
  exact⟨rfl,0,rfl⟩
 ·have h97i:decide ((97:Int)≤(c:Int))=false:=decide_eq_false (by omega)
  clear hb
  go_enter Tryz.func103,Tryz.ntmps103
  go_wp2_with fail
  go_ret2
  exact⟨rfl,0,rfl⟩
theorem IF(t:Int)(s:ByteArray)(at_:Nat)(v:Int)(w:World)(hs:s.size≤1048576)(_hv:VR t v)(hat:at_<s.size)(hc:s[at_].toNat=33)(hi:∀W,Calls Tryz.prog 103 #[.int .i64 t,.int .i64 v,.string s,.int .i64 ((at_+1:Nat):Int)] W (eR W)):
  Calls Tryz.prog 103 #[.int .i64 t,.int .i64 v,.string s,.int .i64 at_] w (eR w):=by
 have hd:(at_:Int)<(s.size:Int):=by omega
 have hd0:(0:Int)≤(at_:Int):=by omega
 have HI:=zH hi
 clear hi
 go_enter Tryz.func103,Tryz.ntmps103
 go_wp2_with fail
 refine(HI.out _).mono ?_
 rintro e w1 ⟨rfl,q,rfl⟩
 go_wp2_with fail
 go_ret2
 exact⟨rfl,_,rfl⟩
theorem U9(t:Int)(s:ByteArray)(at_:Nat)(v:Int)(w:World)(hs:s.size≤1048576)(hv:VR t v)(hat:at_<s.size)(hc:s[at_].toNat=33)(x:Ld)(rest:List Nat)(hi:∀W,Calls Tryz.prog 103 #[.int .i64 t,.int .i64 v,.string s,.int .i64 ((at_+1:Nat):Int)] W (bI t s x rest v W)):
  Calls Tryz.prog 103 #[.int .i64 t,.int .i64 v,.string s,.int .i64 at_] w (bI t s (.no x) rest v w):=by
 have hd:(at_:Int)<(s.size:Int):=by omega
 have hd0:(0:Int)≤(at_:Int):=by omega
 have HI:=zH hi
 have hv2:=hv.lt
 have HH:=zH hv
 have HV:=zH (U4 (t:=t) (x:=x) hv2.2)
 clear hi hv
 go_enter Tryz.func103,Tryz.ntmps103
 go_wp2_with fail
 refine(HI.out _).mono ?_
 rintro e w1 ⟨u,a2,rfl,HU,hu,hu2,ha2,hdr,q,rfl⟩
 have HD:=zH hdr
 have hu3:=hu.lt
 replace HV:=zH HV.out
 rw[HU.out] at HV
 have hu4:=hu2
 clear hu hdr hu2
 by_cases hneg:u<0
 ·have HV2:Hid (cG t (.no x) v= -1):=by have:=HV.out;rw[if_pos hneg] at this;exact this
  clear HV
  go_wp2_with fail
  go_ret2
  exact bI.of HH.out HV2.out ha2 HD.out ⟨_,rfl⟩
 ·have HV2:Hid (cG t (.no x) v=v-u):=by have:=HV.out;rw[if_neg hneg] at this;exact this
  have hge:0≤u:=by omega
  clear HV
  go_wp2_with fail
  go_ret2
  exact bI.of HH.out HV2.out ha2 HD.out ⟨_,rfl⟩
theorem EW(t:Int)(s:ByteArray)(at_:Nat)(v:Int)(w:World)(hs:s.size≤1048576)(_hv:VR t v)(hat:at_<s.size)(hc:s[at_].toNat=91)(hi:∀W,Calls Tryz.prog 103 #[.int .i64 t,.int .i64 v,.string s,.int .i64 ((at_+1:Nat):Int)] W (eR W)):
  Calls Tryz.prog 103 #[.int .i64 t,.int .i64 v,.string s,.int .i64 at_] w (eR w):=by
 have hd:(at_:Int)<(s.size:Int):=by omega
 have hd0:(0:Int)≤(at_:Int):=by omega
 have HI:=zH hi
 clear hi
 go_enter Tryz.func103,Tryz.ntmps103
 go_wp2_with fail
 refine(HI.out _).mono ?_
 rintro e w1 ⟨rfl,q,rfl⟩
 go_wp2_with fail
 go_ret2
 exact⟨rfl,_,rfl⟩
theorem IV(t:Int)(s:ByteArray)(at_:Nat)(v:Int)(w:World)(hs:s.size≤1048576)(_hv:VR t v)(hat:at_<s.size)(hc:s[at_].toNat=91)(x:Ld)(hi:∀W,Calls Tryz.prog 103 #[.int .i64 t,.int .i64 v,.string s,.int .i64 ((at_+1:Nat):Int)] W (bI t s x [] v W)):
  Calls Tryz.prog 103 #[.int .i64 t,.int .i64 v,.string s,.int .i64 at_] w (eR w):=by
 have hd:(at_:Int)<(s.size:Int):=by omega
 have hd0:(0:Int)≤(at_:Int):=by omega
 have HI:=zH hi
 clear hi
 go_enter Tryz.func103,Tryz.ntmps103
 go_wp2_with fail
 refine(HI.out _).mono ?_
 rintro e w1 ⟨u,a2,rfl,HU,hu,hu2,ha2,hdr,q,rfl⟩
 have hu3:=hu.lt
 obtain rfl:=eH hdr ha2
 clear hdr hu hu2
 go_wp2_with fail
 go_ret2
 exact⟨rfl,_,rfl⟩
theorem D6(t:Int)(s:ByteArray)(at_:Nat)(v:Int)(w:World)(hs:s.size≤1048576)(_hv:VR t v)(hat:at_<s.size)(hc:s[at_].toNat=40)(hi:∀W,Calls Tryz.prog 103 #[.int .i64 t,.int .i64 v,.string s,.int .i64 ((at_+1:Nat):Int)] W (eR W)):
  Calls Tryz.prog 103 #[.int .i64 t,.int .i64 v,.string s,.int .i64 at_] w (eR w):=by
 have hd:(at_:Int)<(s.size:Int):=by omega
 have hd0:(0:Int)≤(at_:Int):=by omega
 have HI:=zH hi
 clear hi
 go_enter Tryz.func103,Tryz.ntmps103
 go_wp2_with fail
 refine(HI.out _).mono ?_
 rintro e w1 ⟨rfl,q,rfl⟩
 go_wp2_with fail
 go_ret2
 exact⟨rfl,_,rfl⟩
theorem F1(t:Int)(s:ByteArray)(at_:Nat)(v:Int)(w:World)(hs:s.size≤1048576)(_hv:VR t v)(hat:at_<s.size)(hc:s[at_].toNat=40)(x:Ld)(hi:∀W,Calls Tryz.prog 103 #[.int .i64 t,.int .i64 v,.string s,.int .i64 ((at_+1:Nat):Int)] W (bI t s x [] v W)):
  Calls Tryz.prog 103 #[.int .i64 t,.int .i64 v,.string s,.int .i64 at_] w (eR w):=by
 have hd:(at_:Int)<(s.size:Int):=by omega
 have hd0:(0:Int)≤(at_:Int):=by omega
 have HI:=zH hi
 clear hi
 go_enter Tryz.func103,Tryz.ntmps103
 go_wp2_with fail
 refine(HI.out _).mono ?_
 rintro e w1 ⟨u,a2,rfl,HU,hu,hu2,ha2,hdr,q,rfl⟩
 have hu3:=hu.lt
 obtain rfl:=eH hdr ha2
 clear hdr hu hu2
 go_wp2_with fail
 go_ret2
 exact⟨rfl,_,rfl⟩
theorem FG(t:Int)(s:ByteArray)(at_:Nat)(v:Int)(w:World)(hs:s.size≤1048576)(_hv:VR t v)(hat:at_<s.size)(hc:s[at_].toNat=91)(x:Ld)(m:Nat)(l:List Nat)(hi:∀W,Calls Tryz.prog 103 #[.int .i64 t,.int .i64 v,.string s,.int .i64 ((at_+1:Nat):Int)] W (bI t s x (m::l) v W))(hm:m≠93):
  Calls Tryz.prog 103 #[.int .i64 t,.int .i64 v,.string s,.int .i64 at_] w (eR w):=by
 have hd:(at_:Int)<(s.size:Int):=by omega
 have hd0:(0:Int)≤(at_:Int):=by omega
 have HI:=zH hi
 have e1:((m:Int)==93)=false:=by rw[beq_eq_false_iff_ne];omega
 have e2:((m:Int) != 93)=true:=by rw[bne,e1];rfl
 clear hi hm
 go_enter Tryz.func103,Tryz.ntmps103
 go_wp2_with fail
 refine(HI.out _).mono ?_
 rintro e w1 ⟨u,a2,rfl,HU,hu,hu2,ha2,hdr,q,rfl⟩
 have hu3:=hu.lt
 obtain⟨hlt,hm,hl⟩:=aW hdr
 have hd3:(a2:Int)<(s.size:Int):=by omega
 have hd4:(0:Int)≤(a2:Int):=by omega
 clear hdr hl hu hu2
 go_wp2_with fail
 go_ret2
 exact⟨rfl,_,rfl⟩
theorem K9(t:Int)(s:ByteArray)(at_:Nat)(v:Int)(w:World)(hs:s.size≤1048576)(hv:VR t v)(hat:at_<s.size)(hc:s[at_].toNat=91)(x:Ld)(l:List Nat)(hi:∀W,Calls Tryz.prog 103 #[.int .i64 t,.int .i64 v,.string s,.int .i64 ((at_+1:Nat):Int)] W (bI t s x (93::l) v W))(hi2:∀(a2:Nat) (u:Int) W,VR t u→a2≤s.size→(aG s).drop a2=l→Calls Tryz.prog 103 #[.int .i64 t,.int .i64 u,.string s,.int .i64 a2] W (eR W)):
  Calls Tryz.prog 103 #[.int .i64 t,.int .i64 v,.string s,.int .i64 at_] w (eR w):=by
 have hd:(at_:Int)<(s.size:Int):=by omega
 have hd0:(0:Int)≤(at_:Int):=by omega
 have HI:=zH hi
 have HI2:=zH hi2
 have hv2:=hv.lt
 have HH:=zH hv
 clear hi hi2 hv
 go_enter Tryz.func103,Tryz.ntmps103
 go_wp2_with fail
 refine(HI.out _).mono ?_
 rintro e w1 ⟨u,a2,rfl,HU,hu,hu2,ha2,hdr,q,rfl⟩
 have hu3:=hu.lt
 obtain⟨hlt,hm,hl⟩:=aW hdr
 have HC2:=zH (fun u W h=>HI2.out (a2+1) u W h hlt hl)
 have HVU:=zH hu
 have hd3:(a2:Int)<(s.size:Int):=by omega
 have hd4:(0:Int)≤(a2:Int):=by omega
 clear hdr hl hu
 by_cases hne:u=v
 ·subst hne
  have hbb:(u != u)=false:=by simp
  go_wp2_with fail
  refine(HC2.out _ _ HH.out).mono ?_
  rintro e w2 ⟨rfl,q2,rfl⟩
  go_wp2_with fail
  go_ret2
  exact⟨rfl,_,by first|rfl|rw[World.drewN_drewN]⟩
 ·have hbb:(u != v)=true:=by simp[hne]
  have hbe:(u==v)=false:=by rw[beq_eq_false_iff_ne];exact hne
  clear hne
  go_wp2_with fail
  refine(HC2.out _ _ HH.out).mono ?_
  rintro e w2 ⟨rfl,q2,rfl⟩
  go_wp2_with fail
  go_ret2
  exact⟨rfl,_,by first|rfl|rw[World.drewN_drewN]⟩
theorem S0(t:Int)(s:ByteArray)(at_:Nat)(v:Int)(w:World)(hs:s.size≤1048576)(hv:VR t v)(hat:at_<s.size)(hc:s[at_].toNat=91)(x y:Ld)(l rest:List Nat)(hi:∀W,Calls Tryz.prog 103 #[.int .i64 t,.int .i64 v,.string s,.int .i64 ((at_+1:Nat):Int)] W (bI t s x (93::l) v W))(hi2:∀(a2:Nat) (u:Int) W,VR t u→a2≤s.size→(aG s).drop a2=l→Calls Tryz.prog 103 #[.int .i64 t,.int .i64 u,.string s,.int .i64 a2] W (bI t s y rest u W)):
  Calls Tryz.prog 103 #[.int .i64 t,.int .i64 v,.string s,.int .i64 at_] w (bI t s (.pre x y) rest v w):=by
 have hd:(at_:Int)<(s.size:Int):=by omega
 have hd0:(0:Int)≤(at_:Int):=by omega
 have HI:=zH hi
 have HI2:=zH hi2
 have hv2:=hv.lt
 have HH:=zH hv
 have HV:=zH (TO (t:=t) (x:=x) (y:=y) hv.1)
 clear hi hi2 hv
 go_enter Tryz.func103,Tryz.ntmps103
 go_wp2_with fail
 refine(HI.out _).mono ?_
 rintro e w1 ⟨u,a2,rfl,HU,hu,hu2,ha2,hdr,q,rfl⟩
 have hu3:=hu.lt
 obtain⟨hlt,hm,hl⟩:=aW hdr
 have HC2:=zH (fun u W h=>HI2.out (a2+1) u W h hlt hl)
 have HVU:=zH hu
 have hd3:(a2:Int)<(s.size:Int):=by omega
 have hd4:(0:Int)≤(a2:Int):=by omega
 clear hdr hl hu
 rw[HU.out] at HV
 by_cases hne:u=v
 ·subst hne
  have hbb:(u != u)=false:=by simp
  have HV2:Hid (cG t (.pre x y) u=cG t y u):=by have:=HV.out;rw[if_pos rfl] at this;exact this
  clear HV
  go_wp2_with fail
  refine(HC2.out _ _ HH.out).mono ?_
  rintro e w2 ⟨u2,a3,rfl,HU2,_,_,ha3,hdr3,q2,rfl⟩
  have HD:=zH hdr3
  clear hdr3
  go_wp2_with fail
  go_ret2
  exact bI.of HH.out (HV2.out.trans HU2.out) ha3 HD.out ⟨_,by first|rfl|rw[World.drewN_drewN]⟩
 ·have hbb:(u != v)=true:=by simp[hne]
  have hbe:(u==v)=false:=by rw[beq_eq_false_iff_ne];exact hne
  have HV2:Hid (cG t (.pre x y) v= -1):=by have:=HV.out;rw[if_neg hne] at this;exact this
  clear hne HV
  go_wp2_with fail
  refine(HC2.out _ _ HH.out).mono ?_
  rintro e w2 ⟨u2,a3,rfl,HU2,_,_,ha3,hdr3,q2,rfl⟩
  have HD:=zH hdr3
  clear hdr3
  go_wp2_with fail
  go_ret2
  exact bI.of HH.out HV2.out ha3 HD.out ⟨_,by first|rfl|rw[World.drewN_drewN]⟩
end Go.Proofs.YtfhjcacfchkdpaaGreatDoor

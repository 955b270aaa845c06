/-
  What the proofs of this seat's statements share (LdsIG).
-/
import Derived.Test.YtfhjcacfchkdpaaGreatDoorU32
set_option maxRecDepth 100000
set_option maxHeartbeats 32000000
namespace Go.Proofs.YtfhjcacfchkdpaaGreatDoor
open Go.RowKit
theorem TB(t:Int)(s:ByteArray)(at_:Nat)(v:Int)(w:World)(hs:s.size≤1048576)(hv:VR t v)(hat:at_<s.size)(hc:s[at_].toNat=40)(x y:Ld)(l r:List Nat)(hi:∀W,Calls Tryz.prog 103 #[.int .i64 t,.int .i64 v,.string s,.int .i64 ((at_+1:Nat):Int)] W (bI t s x (62::l) v W))(hi2:∀(a2:Nat) (u:Int) W,VR t u→a2≤s.size→(aG s).drop a2=l→Calls Tryz.prog 103 #[.int .i64 t,.int .i64 u,.string s,.int .i64 a2] W (bI t s y (41::r) u W)):
  Calls Tryz.prog 103 #[.int .i64 t,.int .i64 v,.string s,.int .i64 at_] w (bI t s (.if_ x y) r v w):=by
 have hd:(at_:Int)<(s.size:Int):=by omega
 have hd0:(0:Int)≤(at_:Int):=by omega
 have HI:=zH hi
 have HI2:=zH hi2
 have hv2:=hv.lt
 have HH:=zH hv
 have HV:=zH (VP (t:=t) (x:=x) (y:=y) hv2.2)
 clear hi hi2 hv
 go_enter Tryz.func103,Tryz.ntmps103
 go_wp2_with fail
 refine(HI.out _).mono ?_
 rintro e w1 ⟨u,a2,rfl,HU,hu,hu2,ha2,hdr,q,rfl⟩
 have hu3:=hu.lt
 obtain⟨hlt,hm,hl⟩:=aW hdr
 have HC2:=zH (fun u W h=>HI2.out (a2+1) u W h hlt hl)
 have HVU:=zH hu
 have hd3:(a2:Int)<(s.size:Int):=by omega
 have hd4:(0:Int)≤(a2:Int):=by omega
 clear hdr hl hu
 by_cases hneg:u<0
 ·have hge:decide ((0:Int)≤u)=false:=decide_eq_false (by omega)
  go_wp2_with fail
  refine(HC2.out _ _ HVU.out).mono ?_
  rintro e w2 ⟨u2,a3,rfl,HU2,hv3,hv4,ha3,hdr3,q2,rfl⟩
  obtain⟨hlt3,hm3,hl3⟩:=aW hdr3
  have hv5:=hv3.lt
  have hd6:(a3:Int)<(s.size:Int):=by omega
  have hd7:(0:Int)≤(a3:Int):=by omega
  have HL3:=zH hl3
  clear hdr3 hv3 hl3
  have HV2:Hid (cG t (.if_ x y) v= -1):=by have:=HV.out;rw[if_pos (.inl (by rw[HU.out];exact hneg))] at this;exact this
  clear HV hv4 hu2
  go_wp2_with fail
  go_ret2
  exact bI.of (a2:=a3+1) HH.out HV2.out (by omega) HL3.out ⟨_,by first|rfl|rw[World.drewN_drewN]⟩
 ·have hge:decide ((0:Int)≤u)=true:=decide_eq_true (by omega)
  have hneg2:decide (u<0)=false:=decide_eq_false (by omega)
  have hge2:0≤u:=by omega
  go_wp2_with fail
  refine(HC2.out _ _ HVU.out).mono ?_
  rintro e w2 ⟨u2,a3,rfl,HU2,hv3,hv4,ha3,hdr3,q2,rfl⟩
  obtain⟨hlt3,hm3,hl3⟩:=aW hdr3
  have hv5:=hv3.lt
  have hd6:(a3:Int)<(s.size:Int):=by omega
  have hd7:(0:Int)≤(a3:Int):=by omega
  have HL3:=zH hl3
  clear hdr3 hv3 hl3
  have hv6:=HV.out
  rw[HU.out,HU2.out] at hv6
  clear HV
  by_cases hn2:u2<0
  ·have HV2:Hid (cG t (.if_ x y) v= -1):=by rw[if_pos (.inr hn2)] at hv6;exact hv6
   clear hv4 hu2 hv6
   go_wp2_with fail
   go_ret2
   exact bI.of (a2:=a3+1) HH.out HV2.out (by omega) HL3.out ⟨_,by first|rfl|rw[World.drewN_drewN]⟩
  ·have HV2:Hid (cG t (.if_ x y) v=v-(u-u2)):=by rw[if_neg (by omega)] at hv6;exact hv6
   have hn3:decide (u2<0)=false:=decide_eq_false (by omega)
   have hn4:0≤u2:=by omega
   have hn5:u2≤255:=by omega
   clear hv4 hu2 hv6
   go_wp2_with fail
   go_ret2
   exact bI.of (a2:=a3+1) HH.out HV2.out (by omega) HL3.out ⟨_,by first|rfl|rw[World.drewN_drewN]⟩
end Go.Proofs.YtfhjcacfchkdpaaGreatDoor

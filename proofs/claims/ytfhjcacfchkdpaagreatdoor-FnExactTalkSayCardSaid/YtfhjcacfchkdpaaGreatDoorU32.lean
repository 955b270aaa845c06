/-
  What the proofs of this seat's statements share (LdsS).
-/
import Derived.Test.YtfhjcacfchkdpaaGreatDoorU31
set_option maxRecDepth 100000
set_option maxHeartbeats 32000000
namespace Go.Proofs.YtfhjcacfchkdpaaGreatDoor
open Go.RowKit
theorem VR.less{t v u:Int}(hv:VR t v)(h0:0≤u)(h:u≤max v (-1)):VR t (v-u):=⟨by omega,by have:=hv.2;omega⟩
theorem DY(t:Int)(s:ByteArray)(at_:Nat)(v:Int)(w:World)(hs:s.size≤1048576)(_hv:VR t v)(hat:at_<s.size)(hc:s[at_].toNat=40)(x:Ld)(m:Nat)(l:List Nat)(hi:∀W,Calls Tryz.prog 103 #[.int .i64 t,.int .i64 v,.string s,.int .i64 ((at_+1:Nat):Int)] W (bI t s x (m::l) v W))(hm:(decide (m=38)||decide (m=124)||decide (m=62))=false):
  Calls Tryz.prog 103 #[.int .i64 t,.int .i64 v,.string s,.int .i64 at_] w (eR w):=by
 have hd:(at_:Int)<(s.size:Int):=by omega
 have hd0:(0:Int)≤(at_:Int):=by omega
 have HI:=zH hi
 simp only[Bool.or_eq_false_iff,decide_eq_false_iff_not] at hm
 have e1:((m:Int)==38)=false:=by rw[beq_eq_false_iff_ne];omega
 have e2:((m:Int)==124)=false:=by rw[beq_eq_false_iff_ne];omega
 have e3:((m:Int)==62)=false:=by rw[beq_eq_false_iff_ne];omega
 have f1:((m:Int) != 38)=true:=by rw[bne,e1];rfl
 have f2:((m:Int) != 124)=true:=by rw[bne,e2];rfl
 have f3:((m:Int) != 62)=true:=by rw[bne,e3];rfl
 clear hi hm
 go_enter Tryz.func103,Tryz.ntmps103
 go_wp2_with fail
 refine(HI.out _).mono ?_
 rintro e w1 ⟨u,a2,rfl,HU,hu,hu2,ha2,hdr,q,rfl⟩
 have hu3:=hu.lt
 obtain⟨hlt,hm,hl⟩:=aW hdr
 have hd3:(a2:Int)<(s.size:Int):=by omega
 have hd4:(0:Int)≤(a2:Int):=by omega
 clear hdr hl hu hu2
 go_wp2_with fail
 go_ret2
 exact⟨rfl,_,rfl⟩
end Go.Proofs.YtfhjcacfchkdpaaGreatDoor

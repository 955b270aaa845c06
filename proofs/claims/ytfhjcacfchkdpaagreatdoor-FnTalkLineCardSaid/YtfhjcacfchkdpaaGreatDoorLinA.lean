/-
  Chapter 9, by the door: what the laws of lines share.
-/
import Derived.Test.YtfhjcacfchkdpaaGreatDoorV3
import Derived.Test.YtfhjcacfchkdpaaGreatDoorU40
set_option maxRecDepth 100000
set_option maxHeartbeats 32000000
namespace Go.Proofs.YtfhjcacfchkdpaaGreatDoor
open Go.RowKit
theorem iTalkLine_p{T X:aL}{A B:Option Addr}{n c m d:Nat}{s:ByteArray}{a:List UInt8}{w:World}(h:Hid (lV T s=(X,a)))(hT:bN w T A n c B m d)(hs:cD T)(hx:s.size≤1048576)(hg:fA w):
  Calls Tryz.prog 14 #[.agg #[.int .i64 T.things,.int .i64 T.now.known,.slice A n c,.slice B m d],.string s] w (C0 X a w):=by
 have:=N3 T A B n c m d s w hT hs hx hg
 rw[h.out] at this
 refine this.mono ?_
 rintro e w' ⟨o,p,vs,rfl,ho,hp,_,hb⟩
 obtain⟨A',c',B',d',rfl,rfl,hin⟩:=qO ho hp
 exact⟨A',_,c',B',_,d',rfl,hin,hb⟩
theorem sTalkLine_p{T X:aL}{A B:Option Addr}{n c m d:Nat}{s:ByteArray}{a:List UInt8}{w:World}(h:Hid (lV T s=(X,a)))(hT:bN w T A n c B m d)(hs:cD T)(hx:s.size≤1048576):
  Calls Tryz.prog 21 #[.agg #[.int .i64 T.things,.int .i64 T.now.known,.slice A n c,.slice B m d],.string s] w (C0 X a w):=by
 have:=ON T A B n c m d s w hT hs hx
 rw[h.out] at this;exact this
theorem lNoTalk(T:aL)(A B:Option Addr)(n c m d:Nat)(w:World)(hT:bN w T A n c B m d)(hs:cD T):
  Calls Tryz.prog 22 #[.agg #[.int .i64 T.things,.int .i64 T.now.known,.slice A n c,.slice B m d]] w fun e w' =>(∃b,e= .returned (.bool b)∧(T=lW→b=true))∧Below w.heap.size w w' :=by
 have HC:Hid (∀W,Below w.heap.size w W→Calls Tryz.prog 18 #[.agg #[.int .i64 T.things,.int .i64 T.now.known,.slice A n c,.slice B m d],.agg #[.int .i64 0,.int .i64 0,.slice none 0 0,.slice none 0 0]] W fun e w' =>(∃b,e= .returned (.bool b)∧(T=lW→b=true))∧Below W.heap.size W w'):=fun W hb=>
  XX T lW A B none none n c m d 0 0 0 0 W (hT.below hb) ⟨rfl,Nat.le_refl _,Nat.zero_le _,a7.nil _ _,rfl,Nat.le_refl _,Nat.zero_le _,b6.nil _ _⟩ hs ⟨by decide,by decide,(fun s hs=>by cases hs),(fun x hx=>by cases hx)⟩
 obtain⟨HX,HB⟩:Hid (aD (w.alloc (.cells #[.int .i64 T.things,.int .i64 T.now.known,.slice A n c,.slice B m d] 33)) w.heap.size 33 [.int .i64 T.things,.int .i64 T.now.known,.slice A n c,.slice B m d])∧Hid (Below w.heap.size w (w.alloc (.cells #[.int .i64 T.things,.int .i64 T.now.known,.slice A n c,.slice B m d] 33))):=⟨aD.new w _ [.int .i64 T.things,.int .i64 T.now.known,.slice A n c,.slice B m d],oA _ _⟩
 clear hT hs
 go_enter Tryz.func22,Tryz.ntmps22
 go_wp2_with fail
 refine(HC.out _ (by first|exact Below.refl _ _|exact HB.out)).mono ?_
 rintro e w1 ⟨⟨b,rfl,hbt⟩,hb⟩
 have HF:=zH (show(T=lW→b=true)∧Below w.heap.size w w1 from⟨hbt,by first|exact aA HB.out hb|exact hb⟩)
 clear hb hbt
 go_wp2_with fail
 go_ret
 exact⟨⟨b,rfl,HF.out.1⟩,HF.out.2⟩
theorem lineTo_smallP{T:aL}{s:ByteArray}:cD (lV T s).1:=by
 cases h:dP T with
 |true=>rw[uE h];exact lQ (CA aH sR p5 s h).1
 |false=>rw[wY h];exact⟨Nat.zero_le _,Nat.zero_le _,fun s hs=>absurd hs (by simp[lW]),fun x hx=>absurd hx (by simp[lW])⟩
theorem lit_is{a:ByteArray}{l:List UInt8}(h:a=⟨l.toArray⟩):(a.toList==l)=true:=by rw[h,ByteArray.toList_eq];simp
structure TalkL (w wx:World) (a:Nat) (T:aL) (A:Option Addr) (n c:Nat) (B:Option Addr) (m d:Nat):Prop where
 x:DX wx a T A n c B m d
 b:Below w.heap.size w wx
theorem TalkL.below{w wx wy:World}{a:Nat}{T:aL}{A B:Option Addr}{n c m d:Nat}(h:TalkL w wx a T A n c B m d)(hb:Below wx.heap.size wx wy):TalkL w wy a T A n c B m d:=⟨h.x.below hb,aA h.b hb⟩
theorem TalkL.new{w wx:World}{T:aL}{A B:Option Addr}{n c m d:Nat}(ht:bN wx T A n c B m d)(hb:Below w.heap.size w wx):TalkL w (wx.alloc (.cells #[.int .i64 T.things,.int .i64 T.now.known,.slice A n c,.slice B m d] 33)) wx.heap.size T A n c B m d:=⟨DX.new ht,aA hb (oA _ _)⟩
theorem put_talk{w wx wy:World}{X T:aL}{a lo:Nat}{A B A2 B2:Option Addr}{n c m d n2 c2 m2 d2:Nat}(h:TalkL w wx a T A n c B m d)(hi:dL wy lo X A2 n2 c2 B2 m2 d2)(hb:Below wx.heap.size wx wy):
  ∃h5 W,wy.heap.size=h5∧wy.alloc (.cells #[.int .i64 X.things,.int .i64 X.now.known,.slice A2 n2 c2,.slice B2 m2 d2] 33)=W∧Hid (TalkL w W a T A n c B m d)∧Hid (DX W h5 X A2 n2 c2 B2 m2 d2)∧Hid (Below wx.heap.size wx W):=
 ⟨_,_,rfl,rfl,h.below (aA hb (oA _ _)),DX.new hi.at_,aA hb (oA _ _)⟩
end Go.Proofs.YtfhjcacfchkdpaaGreatDoor

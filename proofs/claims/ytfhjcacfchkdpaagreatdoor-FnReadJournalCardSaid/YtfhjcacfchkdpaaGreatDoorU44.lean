/-
  What the proofs of this seat's statements share (TdwD).
-/
import Derived.Deep.RegionHeld3
import Derived.Test.YtfhjcacfchkdpaaGreatDoorU43
set_option maxRecDepth 100000
set_option maxHeartbeats 32000000
namespace Go.Proofs.YtfhjcacfchkdpaaGreatDoor
open Go.RowKit
theorem XU(w:World):∃W,(w.alloc (.cells #[.int .i64 0,.int .i64 0,.slice none 0 0,.slice none 0 0] 33)).alloc (.cells #[.int .i64 0,.string ⟨#[]⟩] 41)=W∧Hid (aD W w.heap.size 33 [.int .i64 0,.int .i64 0,.slice none 0 0,.slice none 0 0])∧Hid (aD W (w.heap.size+1) 41 [.int .i64 0,.string ⟨#[]⟩])∧Hid (Below w.heap.size w W):=by
 have h:=aD.new (w.alloc (.cells #[.int .i64 0,.int .i64 0,.slice none 0 0,.slice none 0 0] 33)) 41 [.int .i64 0,.string ⟨#[]⟩]
 rw[World.size_alloc] at h
 exact⟨_,rfl,(aD.new w 33 [.int .i64 0,.int .i64 0,.slice none 0 0,.slice none 0 0]).alloc _,h,((Below.refl _ _).alloc (Nat.le_refl _) _).alloc (by rw[World.size_alloc];omega) _⟩
theorem YV{w w5:World}{lo:Nat}{T:aL}{A B:Option Addr}{n c m d:Nat}{x y z p k0 s0:Value}(hB:Below w.heap.size w w5)(hT:dL w5 lo T A n c B m d)(hlo:w.heap.size+1<lo)(hX:aD w5 w.heap.size 33 [x,y,z,p])(hY:aD w5 (w.heap.size+1) 41 [k0,s0])(a b r q k s:Value):
  Hid (aD ((((((w5.setCell ⟨w.heap.size,0,none⟩ a).setCell ⟨w.heap.size,1,none⟩ b).setCell ⟨w.heap.size,2,none⟩ r).setCell ⟨w.heap.size,3,none⟩ q).setCell ⟨w.heap.size+1,0,none⟩ k).setCell ⟨w.heap.size+1,1,none⟩ s) w.heap.size 33 [a,b,r,q])∧
  Hid (aD ((((((w5.setCell ⟨w.heap.size,0,none⟩ a).setCell ⟨w.heap.size,1,none⟩ b).setCell ⟨w.heap.size,2,none⟩ r).setCell ⟨w.heap.size,3,none⟩ q).setCell ⟨w.heap.size+1,0,none⟩ k).setCell ⟨w.heap.size+1,1,none⟩ s) (w.heap.size+1) 41 [k,s])∧
  Hid (bN ((((((w5.setCell ⟨w.heap.size,0,none⟩ a).setCell ⟨w.heap.size,1,none⟩ b).setCell ⟨w.heap.size,2,none⟩ r).setCell ⟨w.heap.size,3,none⟩ q).setCell ⟨w.heap.size+1,0,none⟩ k).setCell ⟨w.heap.size+1,1,none⟩ s) T A n c B m d)∧
  Hid (Below w.heap.size w ((((((w5.setCell ⟨w.heap.size,0,none⟩ a).setCell ⟨w.heap.size,1,none⟩ b).setCell ⟨w.heap.size,2,none⟩ r).setCell ⟨w.heap.size,3,none⟩ q).setCell ⟨w.heap.size+1,0,none⟩ k).setCell ⟨w.heap.size+1,1,none⟩ s)):=by
 obtain⟨_,_,_,_,h4⟩:=hX.store4 a b r q
 obtain⟨_,_,h2⟩:=(hY.other4 (g:=w.heap.size) (by omega) a b r q).store2 k s
 have hk4:=nL (w:=w5) (b:=w.heap.size) (lo:=lo) (by omega) a b r q
 have hk2:aX lo ((((w5.setCell ⟨w.heap.size,0,none⟩ a).setCell ⟨w.heap.size,1,none⟩ b).setCell ⟨w.heap.size,2,none⟩ r).setCell ⟨w.heap.size,3,none⟩ q) ((((((w5.setCell ⟨w.heap.size,0,none⟩ a).setCell ⟨w.heap.size,1,none⟩ b).setCell ⟨w.heap.size,2,none⟩ r).setCell ⟨w.heap.size,3,none⟩ q).setCell ⟨w.heap.size+1,0,none⟩ k).setCell ⟨w.heap.size+1,1,none⟩ s):=(aX.set (by omega)).trans (aX.set (by omega)) (Nat.le_refl _)
 exact⟨h4.other2 (by omega) k s,h2,((hT.keep hk4).keep hk2).at_,fN (bG hB (Nat.le_refl _) a b r q) (Nat.le_succ _) k s⟩
end Go.Proofs.YtfhjcacfchkdpaaGreatDoor

/-
  Frames over texts: a slice of texts as an argument, opened.
-/
import Derived.WalkKit
import Derived.ProofKit
import Derived.OpenShut
import Derived.ChangeOld
import Derived.SliceStrings
import Derived.Test.YtfhjcacfchkdpaaGreatDoorU45
set_option maxRecDepth 100000
set_option maxHeartbeats 32000000
namespace Go.Proofs.YtfhjcacfchkdpaaGreatDoor
open Go.ChangeShapes Go.WideShapes Go.ChangeAt Go.RowKit
theorem strs_of_trod{H:Type}{enc:TypeId×Value→H}{w:World}{base:Nat}{spare:Nat→Bool}{held:Bool}{A:Option Addr}{len cap:Nat}{d:DataW H}{ps:List MemPlace}(h:DataW.Trod enc Tryz.prog w base spare held 28 (.slice A len cap) d ps):
  ∃ss:List ByteArray,len=ss.length∧len≤cap∧cap≤maxLen∧a7 w A ss∧∀s∈ss,s.size≤maxLen:=by
 obtain⟨fuel,hf⟩:=h
 obtain⟨A',ss,c,e,h1,h2,h3,h4⟩:=uV (v:= .slice A len cap) hf
 cases e
 exact⟨ss,rfl,h1,h2,h3,h4⟩
end Go.Proofs.YtfhjcacfchkdpaaGreatDoor

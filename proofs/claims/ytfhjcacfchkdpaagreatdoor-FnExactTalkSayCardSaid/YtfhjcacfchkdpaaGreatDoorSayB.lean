/-
  Chapter 9, by the door: TalkSay, the program's and the model's, as the laws want it.
-/
import Derived.Test.YtfhjcacfchkdpaaGreatDoorSayI
import Derived.Test.YtfhjcacfchkdpaaGreatDoorSayS
import Derived.Lib.SliceRun
import Derived.IntWalk
set_option maxRecDepth 100000
set_option maxHeartbeats 32000000
namespace Go.Proofs.YtfhjcacfchkdpaaGreatDoor
open Go.RowKit
def SayP(X:aL)(an:List ByteArray)(w:World)(e:Ending)(w' :World):Prop:=∃A n c B m d L l,e= .returned (.tuple #[.agg #[.int .i64 X.things,.int .i64 X.now.known,.slice A n c,.slice B m d],.slice L an.length l])∧dL w' w.heap.size X A n c B m d∧aK w' w.heap.size (.slice L an.length l) an∧Below w.heap.size w w'
theorem iTalkSay_p'{T X:aL}{A B L:Option Addr}{n c m d ln lc:Nat}{ls an:List ByteArray}{w:World}(h:Hid (sayTo T ls=(X,an)))(hT:bN w T A n c B m d)(hs:cD T)(hn:ln=ls.length)(hll:ln≤1048576)(hL:a7 w L ls)(hls:∀x∈ls,x.size≤1048576)(hg:fA w):
  Calls Tryz.prog 25 #[.agg #[.int .i64 T.things,.int .i64 T.now.known,.slice A n c,.slice B m d],.slice L ln lc] w (SayP X an w):=by
 have:=iTalkSay T A B L n c m d ln lc ls w hT hs hn hll hL hls hg
 rw[h.out] at this
 refine this.mono ?_
 rintro e w' ⟨o,p,vs,v,rfl,ho,hp,_,hv,_,hb⟩
 obtain⟨A',c',B',d',rfl,rfl,hin⟩:=qO ho hp
 obtain⟨L',l',rfl,_⟩:=hv.form
 exact⟨A',_,c',B',_,d',L',l',rfl,hin,hv,hb⟩
theorem iTalkSay_p{T X:aL}{A B L:Option Addr}{n c m d lc:Nat}{ls an:List ByteArray}{w:World}(h:Hid (sayTo T ls=(X,an)))(hT:bN w T A n c B m d)(hs:cD T)(hll:ls.length≤1048576)(hL:a7 w L ls)(hls:∀x∈ls,x.size≤1048576)(hg:fA w):
  Calls Tryz.prog 25 #[.agg #[.int .i64 T.things,.int .i64 T.now.known,.slice A n c,.slice B m d],.slice L ls.length lc] w (SayP X an w):=iTalkSay_p' h hT hs rfl hll hL hls hg
theorem sTalkSay_p{T X:aL}{A B L:Option Addr}{n c m d lc:Nat}{ls an:List ByteArray}{w:World}(h:Hid (sayTo T ls=(X,an)))(hT:bN w T A n c B m d)(hs:cD T)(hll:ls.length≤1048576)(hL:a7 w L ls)(hls:∀x∈ls,x.size≤1048576):
  Calls Tryz.prog 26 #[.agg #[.int .i64 T.things,.int .i64 T.now.known,.slice A n c,.slice B m d],.slice L ls.length lc] w (SayP X an w):=by
 have:=sTalkSay T A B L n c m d ls.length lc ls w hT hs rfl hll hL hls
 rw[h.out] at this
 refine this.mono ?_
 rintro e w' ⟨A',n',c',B',m',d',v,rfl,hin,hv,hb⟩
 obtain⟨L',l',rfl,_⟩:=hv.form
 exact⟨A',_,c',B',_,d',L',l',rfl,hin,hv,hb⟩
theorem run_from{L:Option Addr}{n lc j:Nat}(W:World)(hj:j≤n):(Instr.slice 28 (.slice L n lc) (some (.int .i64 (j:Int))) none none).run Tryz.prog W= .ok (.slice (if lc=j then L else L.map (·.add j)) (n-j) (lc-j)) W:=by
 have hz:(sizeOf 9).run Tryz.prog W= .ok 1 W:=Tryz.sizeOf9 W
 simp[Instr.slice,Instr.sliceBounds,Instr.sliceBound,asIntOf,run_underlying Tryz.underlying28,hz,go_sem,hj]
end Go.Proofs.YtfhjcacfchkdpaaGreatDoor

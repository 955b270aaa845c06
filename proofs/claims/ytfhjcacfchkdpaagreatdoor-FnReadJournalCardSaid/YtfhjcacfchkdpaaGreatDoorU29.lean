/-
  What the proofs of this seat's statements share (NumS, LnA, LnB, LnC, LnD, LnF).
-/
import Derived.Lib.ItoaNum
import Derived.Lib.LaidTab
import Derived.Lib.AppendIntMem
import Derived.Laws.BytesArg
import Derived.BigQuiet
import Derived.Deep.RegionHeld3
import Derived.Test.YtfhjcacfchkdpaaGreatDoorTie
import Derived.LaidMore
import Derived.ProofKit
import Derived.OpenShut
import Derived.Test.YtfhjcacfchkdpaaGreatDoorU28
set_option maxRecDepth 100000
set_option maxHeartbeats 32000000
namespace Go.Proofs.YtfhjcacfchkdpaaGreatDoor
open Go.RowKit
theorem LQ(n:Nat):fS n=Lib.decDigits n:=by
 induction n using Nat.strongRecOn with
 |_ n ih=>
  rw[fS,Lib.decDigits]
  by_cases h:n<10
  ·rw[if_pos h,dif_pos h]
  ·rw[if_neg h,dif_neg h,ih (n / 10) (by omega)]
theorem Q1(n:Nat):(⟨(Lib.itoa (n:Int)).toArray⟩:ByteArray)=cJ (fS n):=by
 rw[LQ]
 unfold cJ Lib.itoa
 rw[if_neg (by omega)]
 rfl
def fA(w:World):Prop:=Lib.TabIs Tryz.prog w "internal/strconv.uint64pow10" .u64 Lib.pow10Tab
theorem fA.blocks{w w' :World}(h:fA w)(hb:∀k,k<w.heap.size→w'.heap[k]? =w.heap[k]?):fA w' :=by
 unfold fA Lib.TabIs World.var? at h⊢
 rw[show Tryz.prog.globalNamed "internal/strconv.uint64pow10" =some 1 by kernel_rfl] at h⊢
 simp only[Option.bind_some] at h⊢
 by_cases hlt:1<w.heap.size
 ·rw[hb _ hlt];exact h
 ·rw[Array.getElem?_eq_none (by omega)] at h
  cases h
theorem fA.below{w w' :World}(h:fA w)(hb:Below w.heap.size w w'):fA w' :=h.blocks fun k hk=>hb.block k hk
theorem fA.drewN{w:World}(h:fA w)(n:Nat):fA (w.drewN n):=h
theorem WN(k:Nat)(hk:k≤1048576)(w:World)(hg:fA w):Calls Tryz.prog 112 #[.int .i64 k] w fun e w' =>e= .returned (.string (cJ (fS k)))∧Below w.heap.size w w' :=by
 refine(Tryz.strconv_Itoa k (by omega) (by omega) w hg).mono ?_
 rintro e w' ⟨rfl,n,os,rfl⟩
 rw[Q1]
 exact⟨rfl,Lib.below_grow _ _ (Nat.le_refl _) _ _⟩
theorem FU(t:Int):cY t ⟨#[]⟩=false:=by
 unfold cY rZ mD
 rw[show aG ⟨#[]⟩=[] from rfl]
 split<;>rfl
def jJ(T:aL)(a r:ByteArray):List UInt8:=
 if a=cJ gT∧aH.isS T.things r=true then kP (aH.sett T.things T.now.known r)
 else if a=cJ r6∧aH.isS T.things r=true then kP (decide (aQ T.now.known (aH.tru T.things r)≠0))
 else if a=cJ u6∧sR T.things r=true then kP (p5 T.things T.now.known r)
 else m0
theorem xH{a:ByteArray}{l:List UInt8}:a=cJ l↔bL a=l:=⟨fun h=>by rw[h];rfl,fun h=>by rw[←h];rfl⟩
theorem L8{l:List UInt8}(h:∀k:Nat,l[k]?≠some 32):rF l=none:=by
 unfold rF
 rw[if_neg fun hm=>by obtain⟨k,hk⟩:=List.mem_iff_getElem?.1 hm;exact h k hk]
theorem xX(T:aL)(a:ByteArray):jJ T a ⟨#[]⟩=m0:=by
 have h1:aH.isS T.things ⟨#[]⟩=false:=by
  cases h:aH.isS T.things ⟨#[]⟩ with
  |false=>rfl
  |true=>exact absurd rfl (VL _ _ h)
 unfold jJ
 rw[h1,show sR T.things ⟨#[]⟩=false from FU _,if_neg (by simp),if_neg (by simp),if_neg (by simp)]
def q8(s:ByteArray):Prop:=bL s≠FF∧bL s≠K6∧bL s≠E3∧bL s≠L4
def kD(T:aL)(s:ByteArray):List UInt8:=nI aH sR p5 T (bL s)
theorem OB{T:aL}{s:ByteArray}(h:q8 s)(hn:∀k:Nat,(bL s)[k]?≠some 32):kD T s=jJ T s ⟨#[]⟩:=by
 rw[xX]
 unfold kD nI
 rw[if_neg h.1,if_neg h.2.1,if_neg h.2.2.1,if_neg h.2.2.2,L8 hn]
theorem J5{T:aL}{s:ByteArray}{i:Nat}(h:q8 s)(hi:(bL s)[i]? =some 32∧∀k:Nat,k<i→(bL s)[k]?≠some 32):kD T s=jJ T (s.extract 0 i) (s.extract (i+1) s.size):=by
 obtain⟨hlt,hv⟩:=List.getElem?_eq_some_iff.1 hi.1
 have hsp:rF (bL s)=some ((bL s).take i,(bL s).drop (i+1)):=by
  have e:bL s=(bL s).take i++32::(bL s).drop (i+1):=by
   have e1:(bL s).drop i=32::(bL s).drop (i+1):=by rw[List.drop_eq_getElem_cons hlt,hv]
   rw[←e1,List.take_append_drop]
  conv=>lhs;rw[e]
  refine FP fun hm=> ?_
  obtain⟨k,hk⟩:=List.mem_iff_getElem?.1 hm
  rw[List.getElem?_take] at hk
  split at hk
  ·exact hi.2 k ‹_› hk
  ·cases hk
 unfold kD nI
 rw[if_neg h.1,if_neg h.2.1,if_neg h.2.2.1,if_neg h.2.2.2,hsp]
 unfold jJ
 have e0:bL (s.extract 0 i)=(bL s).take i:=by rw[j7,List.drop_zero]
 simp only[xH,e0,oX]
theorem uR(T:aL)(r:ByteArray):jJ T ⟨#[115,101,116,116,108,101,100]⟩ r=if aH.isS T.things r=true then kP (aH.sett T.things T.now.known r) else m0:=by
 unfold jJ
 have n3:(⟨#[115,101,116,116,108,101,100]⟩:ByteArray)≠cJ u6:=fun h=>by have:=xH.1 h;revert this;decide
 cases h:aH.isS T.things r with
 |true=>rw[if_pos ⟨rfl,rfl⟩,if_pos rfl]
 |false=>simp only[Bool.false_eq_true,and_false,if_false,n3,false_and]
theorem s9(T:aL)(r:ByteArray):jJ T ⟨#[112,111,115,115,105,98,108,101]⟩ r=if aH.isS T.things r=true then kP (decide (aQ T.now.known (aH.tru T.things r)≠0)) else m0:=by
 unfold jJ
 have n1:(⟨#[112,111,115,115,105,98,108,101]⟩:ByteArray)≠cJ gT:=fun h=>by have:=xH.1 h;revert this;decide
 have n3:(⟨#[112,111,115,115,105,98,108,101]⟩:ByteArray)≠cJ u6:=fun h=>by have:=xH.1 h;revert this;decide
 rw[if_neg fun hh=>n1 hh.1]
 cases h:aH.isS T.things r with
 |true=>rw[if_pos ⟨rfl,rfl⟩,if_pos rfl]
 |false=>simp only[Bool.false_eq_true,and_false,if_false,n3,false_and]
theorem yE(T:aL)(r:ByteArray):jJ T ⟨#[115,101,110,115,101]⟩ r=if sR T.things r=true then kP (p5 T.things T.now.known r) else m0:=by
 unfold jJ
 have n1:(⟨#[115,101,110,115,101]⟩:ByteArray)≠cJ gT:=fun h=>by have:=xH.1 h;revert this;decide
 have n2:(⟨#[115,101,110,115,101]⟩:ByteArray)≠cJ r6:=fun h=>by have:=xH.1 h;revert this;decide
 rw[if_neg fun hh=>n1 hh.1,if_neg fun hh=>n2 hh.1]
 cases h:sR T.things r with
 |true=>rw[if_pos ⟨rfl,rfl⟩,if_pos rfl]
 |false=>simp only[Bool.false_eq_true,and_false,if_false]
theorem AN{T:aL}{a:ByteArray}(r:ByteArray)(h1:a≠⟨#[115,101,116,116,108,101,100]⟩)(h2:a≠⟨#[112,111,115,115,105,98,108,101]⟩)(h3:a≠⟨#[115,101,110,115,101]⟩):jJ T a r=m0:=by
 unfold jJ
 rw[if_neg (fun hh=>h1 hh.1),if_neg (fun hh=>h2 hh.1),if_neg (fun hh=>h3 hh.1)]
def tT(T:aL):List UInt8:=match T.now.op.getLast? with|some s=>bL s|none=>EE
theorem DU{T:aL}(h:T.now.op.length=0):tT T=EE:=by
 unfold tT
 rw[List.eq_nil_of_length_eq_zero h];rfl
theorem DB{T:aL}{j:Nat}{s:ByteArray}(h:T.now.op.length=j+1)(hs:T.now.op[j]? =some s):tT T=bL s:=by
 unfold tT
 rw[List.getLast?_eq_getElem?,h,Nat.add_sub_cancel,hs]
theorem C7(T:aL):kD T ⟨#[107,110,111,119,110]⟩=fS T.now.known.toNat:=by unfold kD nI;exact if_pos rfl
theorem GT(T:aL):kD T ⟨#[111,112,101,110]⟩=fS T.now.op.length:=by unfold kD nI;exact(if_neg (by decide)).trans (if_pos rfl)
theorem JB(T:aL):kD T ⟨#[110,111,119]⟩=tT T:=by unfold kD nI;exact(if_neg (by decide)).trans ((if_neg (by decide)).trans (if_pos rfl))
theorem G0(T:aL):kD T ⟨#[112,97,115,116]⟩=fS T.past.length:=by unfold kD nI;exact(if_neg (by decide)).trans ((if_neg (by decide)).trans ((if_neg (by decide)).trans (if_pos rfl)))
theorem j3{a:ByteArray}{l:List UInt8}(h:a≠⟨l.toArray⟩):(a.toList==l)=false:=by
 rw[beq_eq_false_iff_ne]
 intro e
 rw[ByteArray.toList_eq] at e
 exact h (ByteArray.ext (by rw[←e]))
theorem BT(w:World)(a b c d:Value):Hid (aD (w.alloc (.cells #[a,b,c,d] 79)) w.heap.size 79 [a,b,c,d])∧Hid (Below w.heap.size w (w.alloc (.cells #[a,b,c,d] 79))):=
 ⟨aD.new w _ [a,b,c,d],(Below.refl _ _).alloc (Nat.le_refl _) _⟩
theorem NQ(T:aL)(A B:Option Addr)(n c m d:Nat)(w:World)(hT:bN w T A n c B m d)(hl:T.now.op.length≤1048576):
  Calls Tryz.prog 113 #[.agg #[.int .i64 T.now.known,.slice A n c,.int .i64 T.things,.slice B m d]] w fun e w' =>e= .returned (.string (cJ (tT T)))∧Below w.heap.size w w' :=by
 obtain rfl:=hT.hn
 have HT:=zH hT
 obtain⟨t,ht⟩:∃t,T.things=t:=⟨_,rfl⟩
 obtain⟨q,hq⟩:∃q,T.now.known=q:=⟨_,rfl⟩
 rw[ht,hq]
 obtain⟨HX,HB⟩:=BT w (.int .i64 q) (.slice A T.now.op.length c) (.int .i64 t) (.slice B m d)
 have HL:=zH hl
 clear ht hq hT hl
 by_cases h0:T.now.op.length=0
 ·have HLU:=zH (DU h0)
  have hd:((T.now.op.length:Int)==0)=true:=by rw[beq_iff_eq];omega
  clear h0
  go_enter Tryz.func113,Tryz.ntmps113
  go_upto_region 1 with fail
  obtain⟨W0,hW0⟩:∃W,w.alloc (.cells #[.int .i64 q,.slice A T.now.op.length c,.int .i64 t,.slice B m d] 79)=W:=⟨_,rfl⟩
  rw[hW0] at HX HB⊢
  clear hW0
  have hc1:=HX.out.cell (i:=1) (v:= .slice A T.now.op.length c) rfl
  go_wp2_with fail
  go_ret
  exact⟨by rw[HLU.out];rfl,HB.out⟩
 ·obtain⟨j,hj⟩:∃j,T.now.op.length=j+1:=⟨T.now.op.length-1,by omega⟩
  have hjlt:j<T.now.op.length:=by omega
  have hlx:T.now.op.length≤1048576:=HL.out
  have hjm:j<maxLen:=by unfold maxLen;have:=HL.out;omega
  have hji:(T.now.op.length:Int)-1=(j:Int):=by omega
  have hd:((T.now.op.length:Int)==0)=false:=by rw[beq_eq_false_iff_ne];omega
  have HJ:=zH hj
  clear h0 hj
  go_enter Tryz.func113,Tryz.ntmps113
  go_upto_region 1 with fail
  obtain⟨W0,hW0⟩:∃W,w.alloc (.cells #[.int .i64 q,.slice A T.now.op.length c,.int .i64 t,.slice B m d] 79)=W:=⟨_,rfl⟩
  rw[hW0] at HX HB⊢
  clear hW0
  have hc1:=HX.out.cell (i:=1) (v:= .slice A T.now.op.length c) rfl
  obtain⟨b,off,x,rfl,hcx,HXJ,_⟩:=(HT.out.hA.below HB.out).elem hjlt
  have HLU:=zH (DB HJ.out HXJ.out)
  go_wp2_with fail
  go_ret
  exact⟨by rw[HLU.out,r7];rfl,HB.out⟩
theorem FO(T:aL)(A B:Option Addr)(n c m d:Nat)(s a r:ByteArray)(b:Bool)(w:World)(hset:aO T.things T.now.known=true)(hr:r.size≤1048576)
  (hcut:Hid (∀W,Calls Tryz.prog 43 #[.string s,.string ⟨#[32]⟩] W fun e w' =>e= .returned (.tuple #[.string a,.string r,.bool b])∧∃n,w' =W.drewN n)):
  Calls Tryz.prog 114 #[.agg #[.int .i64 T.now.known,.slice A n c,.int .i64 T.things,.slice B m d],.string s] w fun e w' =>e= .returned (.string (cJ (jJ T a r)))∧Below w.heap.size w w' :=by
 have hr9:r.size≤9223372036854775807:=by omega
 obtain⟨ht1,ht3,hq0,hqa,hq256⟩:=aZ hset
 have HST:Hid (∀W:World,Calls Tryz.prog 105 #[.int .i64 T.things,.int .i64 T.now.known,.string r] W fun e w' =>e= .returned (.tuple #[.bool (aH.isS T.things r&&aH.sett T.things T.now.known r),.bool (aH.isS T.things r)])∧Below W.heap.size W w'):=fun W=>tQ r W hset hr9
 have HTI:Hid (∀W:World,Calls Tryz.prog 115 #[.int .i64 T.things,.string r] W fun e w' =>e= .returned (.int .i64 (dO T.things r))∧Below W.heap.size W w'):=fun W=>JE T.things r W hr9
 have HCH:Hid (∀W:World,Calls Tryz.prog 136 #[.int .i64 T.things,.int .i64 T.now.known,.string r] W (gK (eJ T.things T.now.known r) W)):=fun W=>LS T.things T.now.known r W hr9
 have HLO:Hid (∀W:World,Calls Tryz.prog 137 #[.int .i64 T.things,.string r] W fun e w' =>e= .returned (.bool (cY T.things r))∧Below W.heap.size W w'):=fun W=>M1 T.things r W hr9
 obtain⟨HX,HB⟩:=BT w (.int .i64 T.now.known) (.slice A n c) (.int .i64 T.things) (.slice B m d)
 have HJS:=zH (uR T r)
 have HJP:=zH (s9 T r)
 have HJE:=zH (yE T r)
 have HTR:Hid (aH.isS T.things r=true→0≤dO T.things r∧dO T.things r<256):=fun h=>by
  obtain⟨y,hy⟩:=iV.1 h
  have h1:=nK hy
  have h2:=(bH T.things).2
  omega
 have HTN:Hid (aH.isS T.things r=false→dO T.things r= -1):=fun h=>by
  have h:(fC T.things r).isSome=false:=h
  unfold dO
  cases hs:fC T.things r with
  |none=>rfl
  |some x=>rw[hs] at h;cases h
 have HQ:Hid (0≤T.now.known∧T.now.known<256):=⟨hq0,hq256⟩
 have HSN:Hid (p5 T.things T.now.known r=(eJ T.things T.now.known r).isSome):=rfl
 have HTU:Hid (aH.tru T.things r=dO T.things r):=rfl
 have HLT:Hid (sR T.things r=cY T.things r):=rfl
 obtain⟨t,ht⟩:∃t,T.things=t:=⟨_,rfl⟩
 obtain⟨q,hq⟩:∃q,T.now.known=q:=⟨_,rfl⟩
 rw[ht,hq] at HX HB HST HCH HJS HJP HJE HSN
 rw[hq] at HQ
 rw[ht] at HTI HLO HTR HTN HTU HLT
 rw[ht,hq]
 clear ht hq hset ht1 ht3 hq0 hqa hq256 hr hr9
 obtain⟨v1,h1⟩:∃v,aH.isS t r=v:=⟨_,rfl⟩
 obtain⟨v2,h2⟩:∃v,aH.sett t q r=v:=⟨_,rfl⟩
 obtain⟨u,h3⟩:∃v,dO t r=v:=⟨_,rfl⟩
 obtain⟨v4,h4⟩:∃v,cY t r=v:=⟨_,rfl⟩
 obtain⟨o,h5⟩:∃v,eJ t q r=v:=⟨_,rfl⟩
 rw[HTU.out] at HJP
 rw[HSN.out,HLT.out] at HJE
 rw[h1,h2] at HST HJS
 rw[h1,h3] at HTR HTN HJP
 rw[h3] at HTI
 rw[h4] at HLO HJE
 rw[h5] at HCH HJE
 clear h1 h2 h3 h4 h5 HTU HSN HLT
 have hfirst:a=⟨#[115,101,116,116,108,101,100]⟩∨a=⟨#[112,111,115,115,105,98,108,101]⟩∨a=⟨#[115,101,110,115,101]⟩∨(a≠⟨#[115,101,116,116,108,101,100]⟩∧a≠⟨#[112,111,115,115,105,98,108,101]⟩∧a≠⟨#[115,101,110,115,101]⟩):=by
  by_cases e1:a=⟨#[115,101,116,116,108,101,100]⟩
  ·exact .inl e1
  by_cases e2:a=⟨#[112,111,115,115,105,98,108,101]⟩
  ·exact .inr (.inl e2)
  by_cases e3:a=⟨#[115,101,110,115,101]⟩
  ·exact .inr (.inr (.inl e3))
  ·exact .inr (.inr (.inr ⟨e1,e2,e3⟩))
 rcases hfirst with rfl|rfl|rfl|⟨g1,g2,g3⟩
 ·go_enter Tryz.func114,Tryz.ntmps114
  go_upto_region 1 with fail
  obtain⟨W0,hW0⟩:∃W,w.alloc (.cells #[.int .i64 q,.slice A n c,.int .i64 t,.slice B m d] 79)=W:=⟨_,rfl⟩
  rw[hW0] at HX HB⊢
  clear hW0
  go_wp2_with fail
  refine(hcut.out _).mono ?_
  rintro e w1 ⟨rfl,k,rfl⟩
  have hc0:=(HX.out.drewN k).cell (i:=0) (v:= .int .i64 q) rfl
  have hc2:=(HX.out.drewN k).cell (i:=2) (v:= .int .i64 t) rfl
  have HB1:=zH (aE HB.out k)
  obtain⟨W1,hW1⟩:∃W,W0.drewN k=W:=⟨_,rfl⟩
  rw[hW1] at hc0 hc2 HB1⊢
  clear hW1 HB HX
  go_wp2_with fail
  refine(HST.out _).mono ?_
  rintro e w2 ⟨rfl,hb⟩
  have HB2:=zH (aA HB1.out hb)
  clear hb hc0 hc2 HB1
  cases v1<;>cases v2<;>(go_wp2_with fail;go_ret;exact⟨by rw[HJS.out];rfl,HB2.out⟩)
 ·go_enter Tryz.func114,Tryz.ntmps114
  go_upto_region 1 with fail
  obtain⟨W0,hW0⟩:∃W,w.alloc (.cells #[.int .i64 q,.slice A n c,.int .i64 t,.slice B m d] 79)=W:=⟨_,rfl⟩
  rw[hW0] at HX HB⊢
  clear hW0
  go_wp2_with fail
  refine(hcut.out _).mono ?_
  rintro e w1 ⟨rfl,k,rfl⟩
  have HX1:=zH (HX.out.drewN k)
  have hc2:=(HX.out.drewN k).cell (i:=2) (v:= .int .i64 t) rfl
  have HB1:=zH (aE HB.out k)
  obtain⟨W1,hW1⟩:∃W,W0.drewN k=W:=⟨_,rfl⟩
  rw[hW1] at hc2 HB1 HX1⊢
  clear hW1 HB HX
  go_wp2_with fail
  refine(HTI.out _).mono ?_
  rintro e w2 ⟨rfl,hb⟩
  have HB2:=zH (aA HB1.out hb)
  have hc0:=(HX1.out.below hb).cell (i:=0) (v:= .int .i64 q) rfl
  clear hb hc2 HB1 HX1
  cases v1 with
  |false=>
   obtain rfl:=HTN.out rfl
   obtain⟨z,hz⟩:∃z,bits BinOp.and IntKind.i64 (-1) q=z:=⟨_,rfl⟩
   obtain⟨z0,hz0⟩:∃z0,(z==0)=z0:=⟨_,rfl⟩
   cases z0<;>(go_wp2_with fail;go_ret;exact⟨by rw[HJP.out];rfl,HB2.out⟩)
  |true=>
   obtain⟨hu0,hu1⟩:=HTR.out rfl
   have hbd:bits BinOp.and IntKind.i64 u q=aQ q u:=(mM u q hu0 (by omega) HQ.out.1 (by have:=HQ.out.2;omega)).trans (by unfold aQ;rw[Nat.and_comm])
   have hg:decide (u≥0)=true:=decide_eq_true hu0
   obtain⟨z,hz⟩:∃z,aQ q u=z:=⟨_,rfl⟩
   rw[hz] at hbd HJP
   clear hu0 hu1 hz
   obtain⟨z0,hz0⟩:∃z0,(z==0)=z0:=⟨_,rfl⟩
   have HZ0:Hid (decide (z≠0)= !z0):=by unfold Hid;rw[←hz0];by_cases hzz:z=0<;>simp[hzz]
   cases z0<;>(go_wp2_with fail;go_ret;exact⟨by rw[HJP.out,HZ0.out];rfl,HB2.out⟩)
 ·go_enter Tryz.func114,Tryz.ntmps114
  go_upto_region 1 with fail
  obtain⟨W0,hW0⟩:∃W,w.alloc (.cells #[.int .i64 q,.slice A n c,.int .i64 t,.slice B m d] 79)=W:=⟨_,rfl⟩
  rw[hW0] at HX HB⊢
  clear hW0
  go_wp2_with fail
  refine(hcut.out _).mono ?_
  rintro e w1 ⟨rfl,k,rfl⟩
  have HX1:=zH (HX.out.drewN k)
  have hc0:=(HX.out.drewN k).cell (i:=0) (v:= .int .i64 q) rfl
  have hc2:=(HX.out.drewN k).cell (i:=2) (v:= .int .i64 t) rfl
  have HB1:=zH (aE HB.out k)
  obtain⟨W1,hW1⟩:∃W,W0.drewN k=W:=⟨_,rfl⟩
  rw[hW1] at hc0 hc2 HB1 HX1⊢
  clear hW1 HB HX
  go_wp2_with fail
  refine(HCH.out _).mono ?_
  rintro e w2 ⟨rfl,hb⟩
  have HB2:=zH (aA HB1.out hb)
  have hd2:=(HX1.out.below hb).cell (i:=2) (v:= .int .i64 t) rfl
  clear hb hc0 hc2 HB1 HX1
  go_wp2_with fail
  refine(HLO.out _).mono ?_
  rintro e w3 ⟨rfl,hb⟩
  have HB3:=zH (aA HB2.out hb)
  clear hb hd2 HB2
  cases v4<;>cases o<;>(go_wp2_with fail;go_ret;exact⟨by rw[HJE.out];rfl,HB3.out⟩)
 ·have HJ:=zH (AN (T:=T) r g1 g2 g3)
  have k1:=j3 g1
  have k2:=j3 g2
  have k3:=j3 g3
  clear g1 g2 g3
  go_enter Tryz.func114,Tryz.ntmps114
  go_upto_region 1 with fail
  obtain⟨W0,hW0⟩:∃W,w.alloc (.cells #[.int .i64 q,.slice A n c,.int .i64 t,.slice B m d] 79)=W:=⟨_,rfl⟩
  rw[hW0] at HX HB⊢
  clear hW0
  go_wp2_with fail
  refine(hcut.out _).mono ?_
  rintro e w1 ⟨rfl,k,rfl⟩
  have HB1:=zH (aE HB.out k)
  go_wp2_with fail
  go_ret
  exact⟨by rw[HJ.out];rfl,HB1.out⟩
theorem T4(T:aL)(A B:Option Addr)(n c m d:Nat)(s:ByteArray)(w:World)(hset:aO T.things T.now.known=true)(hs:s.size≤1048576)(hp:q8 s):
  Calls Tryz.prog 114 #[.agg #[.int .i64 T.now.known,.slice A n c,.int .i64 T.things,.slice B m d],.string s] w fun e w' =>e= .returned (.string (cJ (kD T s)))∧Below w.heap.size w w' :=by
 rcases G3 (bL s) 32 with hn|⟨i,hi⟩
 ·rw[OB hp hn]
  exact FO T A B n c m d s s ⟨#[]⟩ false w hset (Nat.zero_le _) (fun W=>FN s 32 hn W)
 ·rw[J5 hp hi]
  have hlt:i<s.size:=by rw[←gF];exact(List.getElem?_eq_some_iff.1 hi.1).1
  exact FO T A B n c m d s _ _ true w hset (by rw[k5 (Nat.le_refl _)];omega) (fun W=>wT s 32 i hi hs W)
theorem SI(T:aL)(A B:Option Addr)(n c m d:Nat)(s:ByteArray)(w:World)(hT:bN w T A n c B m d)(hok:dP T=true)(hs:s.size≤1048576)(hg:fA w):
  Calls Tryz.prog 90 #[.agg #[.int .i64 T.now.known,.slice A n c,.int .i64 T.things,.slice B m d],.string s] w fun e w' =>e= .returned (.string (cJ (kD T s)))∧Below w.heap.size w w' :=by
 obtain⟨hst,hpl,_⟩:=(cT aH).1 hok
 obtain⟨hset,_,hol,_,_⟩:=(cS aH).1 hst
 obtain⟨_,_,hq0,_,hq256⟩:=aZ hset
 have hS:=lQ hok
 obtain rfl:=hT.hn
 obtain rfl:=hT.pn
 have hln:T.now.op.length≤1048576:=hS.op
 have hlp:T.past.length≤1048576:=hS.past
 obtain⟨HX,HB⟩:=BT w (.int .i64 T.now.known) (.slice A T.now.op.length c) (.int .i64 T.things) (.slice B T.past.length d)
 have HIT:Hid (∀(k:Nat),k≤1048576→∀W,Below w.heap.size w W→Calls Tryz.prog 112 #[.int .i64 k] W fun e w' =>e= .returned (.string (cJ (fS k)))∧Below W.heap.size W w'):=fun k hk W hb=>WN k hk W (hg.below hb)
 have HLA:Hid (∀W,Below w.heap.size w W→Calls Tryz.prog 113 #[.agg #[.int .i64 T.now.known,.slice A T.now.op.length c,.int .i64 T.things,.slice B T.past.length d]] W fun e w' =>e= .returned (.string (cJ (tT T)))∧Below W.heap.size W w'):=fun W hb=>NQ T A B _ c _ d W (hT.below hb) hln
 have HJU:Hid (q8 s→∀W,Calls Tryz.prog 114 #[.agg #[.int .i64 T.now.known,.slice A T.now.op.length c,.int .i64 T.things,.slice B T.past.length d],.string s] W fun e w' =>e= .returned (.string (cJ (kD T s)))∧Below W.heap.size W w'):=fun hp W=>T4 T A B _ c _ d s W hset hs hp
 have HLN:=zH hln
 have HLP:=zH hlp
 have HAK:=zH (C7 T)
 obtain⟨k,hk⟩:∃k:Nat,T.now.known=(k:Int):=⟨T.now.known.toNat,by omega⟩
 have HK:Hid (k≤1048576):=by unfold Hid;omega
 obtain⟨t,ht⟩:∃t,T.things=t:=⟨_,rfl⟩
 rw[hk,ht] at HX HB HLA HJU
 rw[hk] at HAK
 rw[hk,ht]
 clear hk ht hT hok hg hst hpl hset hol hq0 hq256 hS hln hlp hs
 have hfirst:s=⟨#[107,110,111,119,110]⟩∨s=⟨#[111,112,101,110]⟩∨s=⟨#[110,111,119]⟩∨s=⟨#[112,97,115,116]⟩∨(s≠⟨#[107,110,111,119,110]⟩∧s≠⟨#[111,112,101,110]⟩∧s≠⟨#[110,111,119]⟩∧s≠⟨#[112,97,115,116]⟩):=by
  by_cases e1:s=⟨#[107,110,111,119,110]⟩
  ·exact .inl e1
  by_cases e2:s=⟨#[111,112,101,110]⟩
  ·exact .inr (.inl e2)
  by_cases e3:s=⟨#[110,111,119]⟩
  ·exact .inr (.inr (.inl e3))
  by_cases e4:s=⟨#[112,97,115,116]⟩
  ·exact .inr (.inr (.inr (.inl e4)))
  ·exact .inr (.inr (.inr (.inr ⟨e1,e2,e3,e4⟩)))
 rcases hfirst with rfl|rfl|rfl|rfl|⟨g1,g2,g3,g4⟩
 ·go_enter Tryz.func90,Tryz.ntmps90
  go_upto_region 1 with fail
  obtain⟨W0,hW0⟩:∃W,w.alloc (.cells #[.int .i64 (k:Int),.slice A T.now.op.length c,.int .i64 t,.slice B T.past.length d] 79)=W:=⟨_,rfl⟩
  rw[hW0] at HX HB⊢
  clear hW0
  have hc0:=HX.out.cell (i:=0) (v:= .int .i64 (k:Int)) rfl
  have hc1:=HX.out.cell (i:=1) (v:= .slice A T.now.op.length c) rfl
  have hc2:=HX.out.cell (i:=2) (v:= .int .i64 t) rfl
  have hc3:=HX.out.cell (i:=3) (v:= .slice B T.past.length d) rfl
  go_wp2_with fail
  refine(HIT.out k HK.out _ HB.out).mono ?_
  rintro e w1 ⟨rfl,hb⟩
  have HB1:=zH (aA HB.out hb)
  clear hb hc0 hc1 hc2 hc3
  go_wp2_with fail
  go_ret
  exact⟨by rw[HAK.out,Int.toNat_natCast];rfl,HB1.out⟩
 ·have HE:=zH (GT T)
  go_enter Tryz.func90,Tryz.ntmps90
  go_upto_region 1 with fail
  obtain⟨W0,hW0⟩:∃W,w.alloc (.cells #[.int .i64 (k:Int),.slice A T.now.op.length c,.int .i64 t,.slice B T.past.length d] 79)=W:=⟨_,rfl⟩
  rw[hW0] at HX HB⊢
  clear hW0
  have hc0:=HX.out.cell (i:=0) (v:= .int .i64 (k:Int)) rfl
  have hc1:=HX.out.cell (i:=1) (v:= .slice A T.now.op.length c) rfl
  have hc2:=HX.out.cell (i:=2) (v:= .int .i64 t) rfl
  have hc3:=HX.out.cell (i:=3) (v:= .slice B T.past.length d) rfl
  go_wp2_with fail
  refine(HIT.out _ HLN.out _ HB.out).mono ?_
  rintro e w1 ⟨rfl,hb⟩
  have HB1:=zH (aA HB.out hb)
  clear hb hc0 hc1 hc2 hc3
  go_wp2_with fail
  go_ret
  exact⟨by rw[HE.out];rfl,HB1.out⟩
 ·have HE:=zH (JB T)
  go_enter Tryz.func90,Tryz.ntmps90
  go_upto_region 1 with fail
  obtain⟨W0,hW0⟩:∃W,w.alloc (.cells #[.int .i64 (k:Int),.slice A T.now.op.length c,.int .i64 t,.slice B T.past.length d] 79)=W:=⟨_,rfl⟩
  rw[hW0] at HX HB⊢
  clear hW0
  have hc0:=HX.out.cell (i:=0) (v:= .int .i64 (k:Int)) rfl
  have hc1:=HX.out.cell (i:=1) (v:= .slice A T.now.op.length c) rfl
  have hc2:=HX.out.cell (i:=2) (v:= .int .i64 t) rfl
  have hc3:=HX.out.cell (i:=3) (v:= .slice B T.past.length d) rfl
  go_wp2_with fail
  refine(HLA.out _ HB.out).mono ?_
  rintro e w1 ⟨rfl,hb⟩
  have HB1:=zH (aA HB.out hb)
  clear hb hc0 hc1 hc2 hc3
  go_wp2_with fail
  go_ret
  exact⟨by rw[HE.out];rfl,HB1.out⟩
 ·have HE:=zH (G0 T)
  go_enter Tryz.func90,Tryz.ntmps90
  go_upto_region 1 with fail
  obtain⟨W0,hW0⟩:∃W,w.alloc (.cells #[.int .i64 (k:Int),.slice A T.now.op.length c,.int .i64 t,.slice B T.past.length d] 79)=W:=⟨_,rfl⟩
  rw[hW0] at HX HB⊢
  clear hW0
  have hc0:=HX.out.cell (i:=0) (v:= .int .i64 (k:Int)) rfl
  have hc1:=HX.out.cell (i:=1) (v:= .slice A T.now.op.length c) rfl
  have hc2:=HX.out.cell (i:=2) (v:= .int .i64 t) rfl
  have hc3:=HX.out.cell (i:=3) (v:= .slice B T.past.length d) rfl
  go_wp2_with fail
  refine(HIT.out _ HLP.out _ HB.out).mono ?_
  rintro e w1 ⟨rfl,hb⟩
  have HB1:=zH (aA HB.out hb)
  clear hb hc0 hc1 hc2 hc3
  go_wp2_with fail
  go_ret
  exact⟨by rw[HE.out];rfl,HB1.out⟩
 ·have HPL:Hid (q8 s):=⟨fun e=>g1 (gI e),fun e=>g2 (gI e),fun e=>g3 (gI e),fun e=>g4 (gI e)⟩
  have k1:=j3 g1
  have k2:=j3 g2
  have k3:=j3 g3
  have k4:=j3 g4
  clear g1 g2 g3 g4
  go_enter Tryz.func90,Tryz.ntmps90
  go_upto_region 1 with fail
  obtain⟨W0,hW0⟩:∃W,w.alloc (.cells #[.int .i64 (k:Int),.slice A T.now.op.length c,.int .i64 t,.slice B T.past.length d] 79)=W:=⟨_,rfl⟩
  rw[hW0] at HX HB⊢
  clear hW0
  have hc0:=HX.out.cell (i:=0) (v:= .int .i64 (k:Int)) rfl
  have hc1:=HX.out.cell (i:=1) (v:= .slice A T.now.op.length c) rfl
  have hc2:=HX.out.cell (i:=2) (v:= .int .i64 t) rfl
  have hc3:=HX.out.cell (i:=3) (v:= .slice B T.past.length d) rfl
  go_wp2_with fail
  refine(HJU.out HPL.out _).mono ?_
  rintro e w1 ⟨rfl,hb⟩
  have HB1:=zH (aA HB.out hb)
  clear hb hc0 hc1 hc2 hc3
  go_wp2_with fail
  go_ret
  exact⟨rfl,HB1.out⟩
theorem F0(s:ByteArray):(dZ s).2.size≤s.size:=by
 by_cases hc:b8 (eT s)=s
 ·rw[(OX hc).1];exact C4 s
 ·rw[(MK hc).1];exact Nat.zero_le _
theorem I7{T:aL}{s:ByteArray}(h:fW s=false):kS T s=(T,kD T s):=by
 unfold fW at h
 unfold kS cH
 cases hr:jN s with
 |none=>rfl
 |some d=>rw[hr] at h;cases h
theorem wQ8{T:aL}{s:ByteArray}(h:fW s=true)(hok:dP T=true):kS T s=((dN T (dZ s).1 (dZ s).2).1,if(dN T (dZ s).1 (dZ s).2).2=true then vI else uQ):=by
 unfold fW at h
 unfold kS cH
 cases hr:jN s with
 |none=>rw[hr] at h;cases h
 |some d=>
  have e:dZ s=d:=by unfold dZ;rw[hr];rfl
  rw[e]
  simp only
  rcases zJ d.1 d.2 hok with⟨h1,h2,h3⟩|⟨h1,h2⟩
  ·rw[h2,h3,show cX aH T d.1 d.2=none from h1];rfl
  ·rw[h2,show cX aH T d.1 d.2=some _ from h1];rfl
def I9(X:aL)(a:List UInt8)(R:World→Prop)(w:World)(e:Ending)(w' :World):Prop:=∃A n c B m d,e= .returned (.tuple #[.agg #[.int .i64 X.now.known,.slice A n c,.int .i64 X.things,.slice B m d],.string (cJ a)])∧(∀w2,R w2→aX w.heap.size w' w2→bN w2 X A n c B m d)∧Below w.heap.size w w'
theorem aD.four{w:World}{h:Nat}{T:TypeId}{a b c d:Value}(hb:aD w h T [a,b,c,d]):w.cell? ⟨h,0,none⟩=some a∧w.cell? ⟨h,1,none⟩=some b∧w.cell? ⟨h,2,none⟩=some c∧w.cell? ⟨h,3,none⟩=some d:=
 ⟨hb.cell (i:=0) rfl,hb.cell (i:=1) rfl,hb.cell (i:=2) rfl,hb.cell (i:=3) rfl⟩
theorem pN(W:World)(o:Obj):Below W.heap.size W (W.alloc o):=(Below.refl _ _).alloc (Nat.le_refl _) _
set_option linter.unusedSimpArgs false in
theorem YK(T:aL)(A B:Option Addr)(n c m d:Nat)(s:ByteArray)(R:World→Prop)(w:World)(hT:qL R T A n c B m d)(hbw:R w)(hok:dP T=true)(hs:s.size≤1048576)(hg:fA w):
  Calls Tryz.prog 51 #[.agg #[.int .i64 T.now.known,.slice A n c,.int .i64 T.things,.slice B m d],.string s] w (I9 (kS T s).1 (kS T s).2 R w):=by
 have hrs:=F0 s
 have HRW:=zH hbw
 have HT:=zH hT
 have HRD:Hid (∀W,Calls Tryz.prog 44 #[.string s] W fun e w' =>e= .returned (.tuple #[.agg #[.int .i64 (dZ s).1,.string (dZ s).2],.bool (fW s)])∧Below W.heap.size W w'):=fun W=>wG s W hs
 have HAN:Hid (∀W,Below w.heap.size w W→Calls Tryz.prog 90 #[.agg #[.int .i64 T.now.known,.slice A n c,.int .i64 T.things,.slice B m d],.string s] W fun e w' =>e= .returned (.string (cJ (kD T s)))∧Below W.heap.size W w'):=fun W hb=>SI T A B n c m d s W (hT.at_ (hT.fw _ _ hbw hb)) hok hs (hg.below hb)
 have HDO:Hid (∀W,Below w.heap.size w W→Calls Tryz.prog 54 #[.agg #[.int .i64 T.now.known,.slice A n c,.int .i64 T.things,.slice B m d],.agg #[.int .i64 (dZ s).1,.string (dZ s).2]] W (qB (dN T (dZ s).1 (dZ s).2).1 (dN T (dZ s).1 (dZ s).2).2 R W)):=fun W hb=>XW T A B n c m d (dZ s).1 (dZ s).2 R W hT (hT.fw _ _ hbw hb) hok (by omega)
 have HLY:Hid (fW s=true→kS T s=((dN T (dZ s).1 (dZ s).2).1,if(dN T (dZ s).1 (dZ s).2).2=true then vI else uQ)):=fun h=>wQ8 h hok
 have HLN:Hid (fW s=false→kS T s=(T,kD T s)):=fun h=>I7 h
 have HWY:Hid ((dN T (dZ s).1 (dZ s).2).2=false→(dN T (dZ s).1 (dZ s).2).1=T):=fun h=>by
  rcases zJ (dZ s).1 (dZ s).2 hok with⟨_,h2,_⟩|⟨_,h2⟩
  ·exact h2
  ·rw[h] at h2;cases h2
 obtain⟨L,hL⟩:∃L,kS T s=L:=⟨_,rfl⟩
 obtain⟨P,hP⟩:∃P,dN T (dZ s).1 (dZ s).2=P:=⟨_,rfl⟩
 obtain⟨kd,hkd⟩:∃k,(dZ s).1=k:=⟨_,rfl⟩
 obtain⟨tx,htx⟩:∃k,(dZ s).2=k:=⟨_,rfl⟩
 obtain⟨z,hz⟩:∃z,fW s=z:=⟨_,rfl⟩
 obtain⟨g,hgA⟩:∃g,kD T s=g:=⟨_,rfl⟩
 rw[hP] at HDO HLY HWY
 rw[hL] at HLY HLN⊢
 rw[hkd,htx] at HRD HDO
 rw[hz] at HRD HLY HLN
 rw[hgA] at HAN HLN
 obtain⟨X,r⟩:=P
 obtain⟨t,ht⟩:∃t,T.things=t:=⟨_,rfl⟩
 obtain⟨q,hq⟩:∃q,T.now.known=q:=⟨_,rfl⟩
 have HTQ:Hid (T.things=t∧T.now.known=q):=⟨ht,hq⟩
 obtain⟨HX,HZ,HB⟩:=pH w 79 79 (.int .i64 q) (.slice A n c) (.int .i64 t) (.slice B m d) (.int .i64 0) (.slice none 0 0) (.int .i64 0) (.slice none 0 0)
 rw[ht,hq] at HAN HDO
 rw[ht,hq]
 clear hL hP hkd htx hz hgA ht hq hT hbw hok hs hg hrs
 go_enter Tryz.func51,Tryz.ntmps51
 go_upto_region 1 with fail
 obtain⟨W0,hW0⟩:∃W,(w.alloc (.cells #[.int .i64 q,.slice A n c,.int .i64 t,.slice B m d] 79)).alloc (.cells #[.int .i64 0,.slice none 0 0,.int .i64 0,.slice none 0 0] 79)=W:=⟨_,rfl⟩
 rw[hW0] at HX HZ HB⊢
 clear hW0
 go_wp2_with fail
 refine(HRD.out _).mono ?_
 rintro e w1 ⟨rfl,hb⟩
 have HX1:=zH (HX.out.below hb)
 have HZ1:=zH (HZ.out.below hb)
 have HB1:=zH (aA HB.out hb)
 clear hb HX HZ HB
 go_upto_region 2 with fail
 have hbl:=pN w1 (.cells #[.int .i64 kd,.string tx] 41)
 have hD:=aD.new w1 41 [.int .i64 kd,.string tx]
 have HX:=zH (HX1.out.below hbl)
 have HZ:=zH (HZ1.out.below hbl)
 have HB:=zH (aA HB1.out hbl)
 obtain⟨h6,he6⟩:∃h,w1.heap.size=h:=⟨_,rfl⟩
 obtain⟨W2,hW2⟩:∃W,w1.alloc (.cells #[.int .i64 kd,.string tx] 41)=W:=⟨_,rfl⟩
 rw[hW2] at hD HX HZ HB
 rw[hW2]
 rw[he6] at hD
 try rw[he6]
 have HD:=zH hD
 clear hW2 he6 hD hbl HX1 HZ1 HB1
 cases z with
 |false=>
  obtain rfl:=HLN.out rfl
  have HQ:Hid (∀W,aD W w.heap.size 79 [.int .i64 q,.slice A n c,.int .i64 t,.slice B m d]→W.cell? ⟨w.heap.size,0,none⟩=some (.int .i64 q)∧W.cell? ⟨w.heap.size,1,none⟩=some (.slice A n c)∧W.cell? ⟨w.heap.size,2,none⟩=some (.int .i64 t)∧W.cell? ⟨w.heap.size,3,none⟩=some (.slice B m d)):=fun W h=>h.four
  clear HDO HLY HLN HWY HRD HD
  go_upto_region 3 with fail
  have HXC:Hid (aD W2.drew w.heap.size 79 [.int .i64 q,.slice A n c,.int .i64 t,.slice B m d]):=HX.out.drew
  have HZC:Hid (aD W2.drew (w.heap.size+1) 79 [.int .i64 0,.slice none 0 0,.int .i64 0,.slice none 0 0]):=HZ.out.drew
  have HBC:Hid (Below w.heap.size w W2.drew):=aE HB.out 1
  clear HX HZ HB
  have hne:w.heap.size+1≠w.heap.size:=by omega
  refine wp_region_held_drew (S:=(fun w' =>w'.cell? ⟨w.heap.size,0,none⟩=some (.int .i64 q)∧w'.cell? ⟨w.heap.size,1,none⟩=some (.slice A n c)∧w'.cell? ⟨w.heap.size,2,none⟩=some (.int .i64 t)∧w'.cell? ⟨w.heap.size,3,none⟩=some (.slice B m d))) (by kernel_rfl) ?_ (fun hHeld=> ?_)
  ·exact HQ.out _ HXC.out
  obtain⟨wd,hwd⟩:∃wd,W2.drew=wd:=⟨_,rfl⟩
  rw[hwd] at HXC HZC HBC hHeld⊢
  clear hwd
  refine zT 0 (h:=?_)
  try simp only[Act.put,zS]
  refine zT 1 (h:=?_)
  try simp only[Act.put,zS]
  refine zT 2 (h:=?_)
  try simp only[Act.put,zS]
  refine wpAnyH_ready (rs:=[3]) (by kernel_rfl) (by simp) ?_
  refine AllReadyH.cons rfl (fun K hK=> ?_) AllReadyH.nil
  (go_simp;go_at_call 90;refine(HAN.out _ HBC.out).mono ?_;rintro e wc ⟨rfl,hb⟩;replace HXC:=zH (HXC.out.below hb);replace HZC:=zH (HZC.out.below hb);replace HBC:=zH (aA HBC.out hb);clear hb)
  refine hK.out _ _ ?_ (fun hHeld=> ?_)
  ·exact HQ.out _ HXC.out
  clear hK K
  try simp only[Act.put,zS]
  refine wpAnyH_ready (rs:=[4]) (by kernel_rfl) (by simp) ?_
  refine AllReadyH.cons rfl (fun K hK=> ?_) AllReadyH.nil
  (obtain⟨⟨ha0,ha1,ha2,ha3,ha4,ha5,ha6,ha7⟩,⟨hb2,hb3⟩,⟨hb4,hb5⟩,⟨hb6,hb7⟩,HOUT⟩:=HZC.out.store4 (.int .i64 q) (.slice A n c) (.int .i64 t) (.slice B m d);replace HXC:=zH (HXC.out.other4 hne (.int .i64 q) (.slice A n c) (.int .i64 t) (.slice B m d));replace HBC:=zH (bG HBC.out (Nat.le_succ _) (.int .i64 q) (.slice A n c) (.int .i64 t) (.slice B m d));go_simp)
  refine hK.out _ _ ?_ (fun hHeld=> ?_)
  ·exact HQ.out _ HXC.out
  clear hK K
  try simp only[Act.put,zS]
  refine wpAnyH_ready (rs:=[5]) (by kernel_rfl) (by simp) ?_
  refine AllReadyH.cons rfl (fun K hK=> ?_) AllReadyH.nil
  go_simp
  refine hK.out _ _ ?_ (fun hHeld=> ?_)
  ·exact HQ.out _ HXC.out
  clear hK K
  try simp only[Act.put,zS]
  refine wpAnyH_done (by kernel_rfl) ?_ _
  go_wp2_with fail
  refine bodyPost_ret_by (bS (b:=w.heap.size+1) rfl rfl rfl HOUT) rfl ⟨A,n,c,B,m,d,by rw[HTQ.out.1,HTQ.out.2];rfl,fun _ h _=>HT.out.at_ h,HBC.out⟩
 |true=>
  have hLy:L=(X,if r=true then vI else uQ):=HLY.out rfl
  obtain⟨a,ha⟩:∃a,(if r=true then vI else uQ)=a:=⟨_,rfl⟩
  rw[ha] at hLy
  subst hLy
  have HA:=zH ha
  clear ha
  have hc0:=HX.out.cell (i:=0) (v:= .int .i64 q) rfl
  have hc1:=HX.out.cell (i:=1) (v:= .slice A n c) rfl
  have hc2:=HX.out.cell (i:=2) (v:= .int .i64 t) rfl
  have hc3:=HX.out.cell (i:=3) (v:= .slice B m d) rfl
  have hd0:=HD.out.cell (i:=0) (v:= .int .i64 kd) rfl
  have hd1:=HD.out.cell (i:=1) (v:= .string tx) rfl
  clear HAN HLY HLN HRD
  go_wp2_with fail
  refine(HDO.out _ HB.out).mono ?_
  rintro e w3 ⟨A',n',c',B',m',d',rfl,hat,hb⟩
  have HX3:=zH (HX.out.below hb)
  have HZ3:=zH (HZ.out.below hb)
  have HB3:=zH (aA HB.out hb)
  have HAT:=zH hat
  have hzl:w.heap.size+1<W2.heap.size:=HZ.out.lt
  have HSZ:=zH HB.out.size
  clear hat hb hc0 hc1 hc2 hc3 hd0 hd1 HX HZ HB HD HDO
  go_upto_region 5 with fail
  have hbl:=pN w3 (.cells #[.int .i64 X.now.known,.slice A' n' c',.int .i64 X.things,.slice B' m' d'] 79)
  have hE:=aD.new w3 79 [.int .i64 X.now.known,.slice A' n' c',.int .i64 X.things,.slice B' m' d']
  have HX:=zH (HX3.out.below hbl)
  have HZ:=zH (HZ3.out.below hbl)
  have HB:=zH (aA HB3.out hbl)
  have HKE:Hid (aX W2.heap.size w3 (w3.alloc (.cells #[.int .i64 X.now.known,.slice A' n' c',.int .i64 X.things,.slice B' m' d'] 79))):=aX.of_below hbl
  obtain⟨h8,he8⟩:∃h,w3.heap.size=h:=⟨_,rfl⟩
  obtain⟨W4,hW4⟩:∃W,w3.alloc (.cells #[.int .i64 X.now.known,.slice A' n' c',.int .i64 X.things,.slice B' m' d'] 79)=W:=⟨_,rfl⟩
  rw[hW4] at hE HX HZ HB HKE
  rw[hW4]
  rw[he8] at hE
  try rw[he8]
  have HE:=zH hE
  clear hW4 he8 hE hbl HX3 HZ3 HB3
  cases r with
  |false=>
   obtain rfl:X=T:=HWY.out rfl
   obtain rfl:uQ=a:=HA.out
   have hc0:=HX.out.cell (i:=0) (v:= .int .i64 q) rfl
   have hc1:=HX.out.cell (i:=1) (v:= .slice A n c) rfl
   have hc2:=HX.out.cell (i:=2) (v:= .int .i64 t) rfl
   have hc3:=HX.out.cell (i:=3) (v:= .slice B m d) rfl
   obtain⟨⟨ha0,ha1,ha2,ha3,ha4,ha5,ha6,ha7⟩,⟨hb2,hb3⟩,⟨hb4,hb5⟩,⟨hb6,hb7⟩,HOUT⟩:=HZ.out.store4 (.int .i64 q) (.slice A n c) (.int .i64 t) (.slice B m d)
   have HBE:=zH (bG HB.out (show w.heap.size≤w.heap.size+1 by omega) (.int .i64 q) (.slice A n c) (.int .i64 t) (.slice B m d))
   go_wp2_with fail
   refine bodyPost_ret_by (bS (b:=w.heap.size+1) rfl rfl rfl HOUT) rfl ⟨A,n,c,B,m,d,by rw[HTQ.out.1,HTQ.out.2];rfl,fun _ h _=>HT.out.at_ h,HBE.out⟩
  |true=>
   obtain rfl:vI=a:=HA.out
   have hc0:=HE.out.cell (i:=0) (v:= .int .i64 X.now.known) rfl
   have hc1:=HE.out.cell (i:=1) (v:= .slice A' n' c') rfl
   have hc2:=HE.out.cell (i:=2) (v:= .int .i64 X.things) rfl
   have hc3:=HE.out.cell (i:=3) (v:= .slice B' m' d') rfl
   obtain⟨⟨ha0,ha1,ha2,ha3,ha4,ha5,ha6,ha7⟩,⟨hb2,hb3⟩,⟨hb4,hb5⟩,⟨hb6,hb7⟩,HOUT⟩:=HZ.out.store4 (.int .i64 X.now.known) (.slice A' n' c') (.int .i64 X.things) (.slice B' m' d')
   have HBE:=zH (bG HB.out (show w.heap.size≤w.heap.size+1 by omega) (.int .i64 X.now.known) (.slice A' n' c') (.int .i64 X.things) (.slice B' m' d'))
   have HFT:Hid (∀w2,R w2→aX w.heap.size ((((W4.setCell ⟨w.heap.size+1,0,none⟩ (.int .i64 X.now.known)).setCell ⟨w.heap.size+1,1,none⟩ (.slice A' n' c')).setCell ⟨w.heap.size+1,2,none⟩ (.int .i64 X.things)).setCell ⟨w.heap.size+1,3,none⟩ (.slice B' m' d')) w2→bN w2 X A' n' c' B' m' d'):=fun w2 g1 g2=>HAT.out w2 g1 ((HKE.out.trans (jF hzl (.int .i64 X.now.known) (.slice A' n' c') (.int .i64 X.things) (.slice B' m' d')) (Nat.le_refl _)).trans g2 HSZ.out)
   go_wp2_with fail
   refine bodyPost_ret_by (bS (b:=w.heap.size+1) rfl rfl rfl HOUT) rfl ⟨A',n',c',B',m',d',rfl,HFT.out,HBE.out⟩
def lV(T:aL)(s:ByteArray):aL×List UInt8:=if dP T=true then kS T s else(lW,[])
theorem wY{T:aL}{s:ByteArray}(h:dP T=false):lV T s=(lW,[]):=if_neg (by rw[h];decide)
theorem uE{T:aL}{s:ByteArray}(h:dP T=true):lV T s=kS T s:=if_pos h
def QS(X:aL)(a:List UInt8)(w:World)(e:Ending)(w' :World):Prop:=∃o p vs,e= .returned (.tuple #[.agg #[.int .i64 X.things,.int .i64 X.now.known,o,p],.string (cJ a)])∧aK w' w.heap.size o X.now.op∧aY 30 w' w.heap.size p vs X.past∧pE o vs∧Below w.heap.size w w'
theorem N3(T:aL)(A B:Option Addr)(n c m d:Nat)(s:ByteArray)(w:World)(hT:bN w T A n c B m d)(hs:cD T)(hx:s.size≤1048576)(hg:fA w):
  Calls Tryz.prog 14 #[.agg #[.int .i64 T.things,.int .i64 T.now.known,.slice A n c,.slice B m d],.string s] w (QS (lV T s).1 (lV T s).2 w):=by
 obtain⟨HX,HR,HB⟩:=vM w (.int .i64 T.things) (.int .i64 T.now.known) (.slice A n c) (.slice B m d)
 have HT0:=zH hT
 have HS:=zH hs
 have HG:=zH hg
 obtain⟨z,hz⟩:∃z,dP T=z:=⟨_,rfl⟩
 have HZ:=zH hz
 obtain⟨P,hP⟩:∃P,lV T s=P:=⟨_,rfl⟩
 rw[hP]
 obtain⟨X,a⟩:=P
 dsimp only
 have HP:=zH hP
 have HSX:=zH hx
 clear hT hs hg hz hP hx
 go_enter Tryz.func14,Tryz.ntmps14
 go_upto_region 1 with fail
 obtain⟨W0,hW0⟩:∃W,(w.alloc (.cells #[.int .i64 T.things,.int .i64 T.now.known,.slice A n c,.slice B m d] 33)).alloc (.cells #[.int .i64 0,.int .i64 0,.slice none 0 0,.slice none 0 0] 33)=W:=⟨_,rfl⟩
 rw[hW0] at HX HR HB⊢
 clear hW0
 have hc0:=HX.out.cell (i:=0) (v:= .int .i64 T.things) rfl
 have hc1:=HX.out.cell (i:=1) (v:= .int .i64 T.now.known) rfl
 have hc2:=HX.out.cell (i:=2) (v:= .slice A n c) rfl
 have hc3:=HX.out.cell (i:=3) (v:= .slice B m d) rfl
 have HOK:=zH (J3 T A B n c m d W0 (HT0.out.below HB.out) HS.out)
 rw[HZ.out] at HOK
 go_wp2_with fail
 refine HOK.out.mono ?_
 rintro e w1 ⟨rfl,hb⟩
 have HX1:=zH (HX.out.below hb)
 have HR1:=zH (HR.out.below hb)
 have HB1:=zH (aA HB.out hb)
 clear hb hc0 hc1 hc2 hc3 HX HR HB HOK
 cases z with
 |false=>
  obtain⟨rfl,rfl⟩:=Prod.mk.inj ((wY HZ.out).symm.trans HP.out)
  obtain⟨⟨ha0,ha1,ha2,ha3,ha4,ha5,ha6,ha7⟩,⟨hb2,hb3⟩,⟨hb4,hb5⟩,⟨hb6,hb7⟩,HOUT⟩:=HR1.out.store4 (.int .i64 0) (.int .i64 0) (.slice none 0 0) (.slice none 0 0)
  have HBE:=zH (bG HB1.out (show w.heap.size≤w.heap.size+1 by omega) (.int .i64 0) (.int .i64 0) (.slice none 0 0) (.slice none 0 0))
  go_wp2_with fail
  refine bodyPost_ret_by (aU (b:=w.heap.size+1) rfl rfl rfl HOUT) rfl ?_
  exact⟨.slice none 0 0,.slice none 0 0,[],rfl,aK.nil _ _,aY.nil _ _ _,pE.nil _,HBE.out⟩
 |true=>
  have hY:kS T s=(X,a):=(uE HZ.out).symm.trans HP.out
  have hc0:=HX1.out.cell (i:=0) (v:= .int .i64 T.things) rfl
  have hc1:=HX1.out.cell (i:=1) (v:= .int .i64 T.now.known) rfl
  have hc2:=HX1.out.cell (i:=2) (v:= .slice A n c) rfl
  have hc3:=HX1.out.cell (i:=3) (v:= .slice B m d) rfl
  have HOX:Hid (dP (kS T s).1=true):=(CA aH sR p5 s HZ.out).1
  have HSAY:Hid (∀W,Below w.heap.size w W→Calls Tryz.prog 51 #[.agg #[.int .i64 T.now.known,.slice A n c,.int .i64 T.things,.slice B m d],.string s] W (I9 (kS T s).1 (kS T s).2 (Below w.heap.size w) W)):=fun W hb=>YK T A B n c m d s (Below w.heap.size w) W (qL.of_at HT0.out) hb HZ.out HSX.out (HG.out.below hb)
  rw[hY] at HOX HSAY
  clear hY HP
  dsimp only at HOX HSAY
  go_wp2_with fail
  refine(zQ T.things T.now.known _ _ A B n c m d rfl rfl w1).mono ?_
  rintro e w2 ⟨rfl,hb⟩
  have HR2:=zH (HR1.out.below hb)
  have HB2:=zH (aA HB1.out hb)
  clear hb hc0 hc1 hc2 hc3 HX1 HR1 HB1
  go_wp2_with fail
  refine(HSAY.out _ HB2.out).mono ?_
  rintro e w3 ⟨A',n',c',B',m',d',rfl,hat,hb⟩
  have HR3:=zH (HR2.out.below hb)
  have HB3:=zH (aA HB2.out hb)
  have HAT:=zH hat
  clear hat hb HR2
  go_upto_region 4 with fail
  have hbl:Below w3.heap.size w3 (w3.alloc (.cells #[.int .i64 X.now.known,.slice A' n' c',.int .i64 X.things,.slice B' m' d'] 79)):=pN _ _
  have hE:=aD.new w3 79 [.int .i64 X.now.known,.slice A' n' c',.int .i64 X.things,.slice B' m' d']
  have HR4:=zH (HR3.out.below hbl)
  have HB4:=zH (aA HB3.out hbl)
  have hT4:=HAT.out _ HB4.out (aX.of_below hbl)
  obtain⟨h8,he8⟩:∃h,w3.heap.size=h:=⟨_,rfl⟩
  obtain⟨W4,hW4⟩:∃W,w3.alloc (.cells #[.int .i64 X.now.known,.slice A' n' c',.int .i64 X.things,.slice B' m' d'] 79)=W:=⟨_,rfl⟩
  rw[hW4] at hE HR4 HB4 hT4
  rw[hW4]
  rw[he8] at hE
  try rw[he8]
  have HGI:=zH (SF X A' B' n' c' m' d' W4 hT4 (lQ HOX.out))
  have hg0:=hE.cell (i:=0) (v:= .int .i64 X.now.known) rfl
  have hg1:=hE.cell (i:=1) (v:= .slice A' n' c') rfl
  have hg2:=hE.cell (i:=2) (v:= .int .i64 X.things) rfl
  have hg3:=hE.cell (i:=3) (v:= .slice B' m' d') rfl
  clear hW4 he8 hE hbl hT4 HR3 HB3 HAT
  go_wp2_with fail
  refine HGI.out.mono ?_
  rintro e w8 ⟨o,p,vs,rfl,ho,hp,hap,hb⟩
  obtain⟨Ao,co,rfl,_⟩:=ho.form
  obtain⟨Ap,cp,rfl,_⟩:=hp.form
  have HR8:=zH (HR4.out.below hb)
  have HB8:=zH (aA HB4.out hb)
  have hzl:w.heap.size+1<W4.heap.size:=HR4.out.lt
  obtain⟨⟨ha0,ha1,ha2,ha3,ha4,ha5,ha6,ha7⟩,⟨hb2,hb3⟩,⟨hb4,hb5⟩,⟨hb6,hb7⟩,HOUT⟩:=HR8.out.store4 (.int .i64 X.things) (.int .i64 X.now.known) (.slice Ao X.now.op.length co) (.slice Ap X.past.length cp)
  have hke:aX W4.heap.size w8 _:=jF hzl (.int .i64 X.things) (.int .i64 X.now.known) (.slice Ao X.now.op.length co) (.slice Ap X.past.length cp)
  have HFO:=zH (And.intro ((ho.keep hke).base HB4.out.size) (And.intro ((hp.keep hke).base HB4.out.size) (And.intro hap (bG HB8.out (show w.heap.size≤w.heap.size+1 by omega) (.int .i64 X.things) (.int .i64 X.now.known) (.slice Ao X.now.op.length co) (.slice Ap X.past.length cp)))))
  clear ho hp hap hb hke hg0 hg1 hg2 hg3
  go_wp2_with fail
  refine bodyPost_ret_by (aU (b:=w.heap.size+1) rfl rfl rfl HOUT) rfl ⟨_,_,vs,rfl,HFO.out⟩
end Go.Proofs.YtfhjcacfchkdpaaGreatDoor
namespace Go.Proofs.YtfhjcacfchkdpaaGreatDoor
open Go.ChangeShapes Go.WideShapes Go.ChangeAt Go.RowKit
theorem YB:Tryz.prog.globalNamed "internal/strconv.uint64pow10" =some 1:=by kernel_rfl
theorem YO:(Tryz.prog.globals[1]?).map (·.type)=some 199:=by kernel_rfl
theorem K7:Tryz.prog.cellsOf 184=1:=by kernel_rfl
theorem NY:Tryz.prog.cellsOf 199=20:=by kernel_rfl
theorem VM{H:Type}:(Rows.laid_internal_strconv_uint64pow10:DataW H)=Lib.tabData .u64 Lib.pow10Tab:=by rfl
def SD{H:Type}:List (String×DataW H):=[("math/bits.deBruijn32tab",Rows.laid_math_bits_deBruijn32tab),("math/bits.deBruijn64tab",Rows.laid_math_bits_deBruijn64tab),("internal/strconv.uint64pow10",Rows.laid_internal_strconv_uint64pow10)]
theorem YL(os:Os)(args:Array Value):laidMetH Tryz.prog SD ((World.doorLaid Tryz.prog 400 os).forCall (fun _ _=>0) ⟨#[],args,[]⟩).memory:=
 laidMetH_of_parts3 (fuel:=8) (laidMet_of_run' 8 (by kernel_rfl) (by kernel_rfl)) (by kernel_rfl) (by kernel_rfl)
theorem WG{W:World}(h:laidMetH Tryz.prog SD W):fA W:=by
 rw[MakeChecks.laidMetH_plain _ _ _ (by kernel_rfl)] at h
 obtain⟨ps,⟨g0,t0,cs0,f0,p0,q0,hg0,ht0,hv0,hd0,⟨g1,t1,cs1,f1,p1,q1,hg1,ht1,hv1,hd1,⟨g2,t2,cs2,f2,p2,q2,hg2,ht2,hv2,hd2,_,_⟩,_⟩,_⟩,_,_⟩:=h
 obtain rfl:=Option.some.inj (YB.symm.trans hg2)
 obtain rfl:=Option.some.inj (YO.symm.trans ht2)
 rw[VM] at hd2
 unfold fA Lib.TabIs
 rw[hv2,←Lib.cells_of_tab Tryz.underlying199 Tryz.underlying184 K7 NY hd2]
end Go.Proofs.YtfhjcacfchkdpaaGreatDoor

/-
  Chapter 9, by the door: the law of TalkSay.
-/
import Derived.Test.YtfhjcacfchkdpaaGreatDoorSayB
import Derived.Test.YtfhjcacfchkdpaaGreatDoorSayD
import Derived.Test.YtfhjcacfchkdpaaGreatDoorLinA
set_option maxRecDepth 100000
set_option maxHeartbeats 32000000
namespace Go.Proofs.YtfhjcacfchkdpaaGreatDoor
open Go.RowKit
theorem lAlive(w:World):Calls Tryz.prog 19 #[] w fun e w' =>e= .returned (.bool true)∧w=w' :=by
 go_enter Tryz.func19,Tryz.ntmps19
 go_wp2_with fail
 refine(eE _ _).mono ?_
 rintro e w' ⟨rfl,rfl⟩
 simp only[eP]
 go_wp2_with fail
 refine(eE _ _).mono ?_
 rintro e w' ⟨rfl,rfl⟩
 simp only[eP]
 go_wp2_with fail
 go_ret
 exact⟨rfl,rfl⟩
theorem at_set4{w:World}{X:aL}{A B:Option Addr}{n c m d:Nat}(h:bN w X A n c B m d)(o:Obj)(a b r q:Value):bN (((((w.alloc o).setCell ⟨w.heap.size,0,none⟩ a).setCell ⟨w.heap.size,1,none⟩ b).setCell ⟨w.heap.size,2,none⟩ r).setCell ⟨w.heap.size,3,none⟩ q) X A n c B m d:=h.below (bG (oA w o) (Nat.le_refl _) a b r q)
theorem at_set4z{w wz:World}{X:aL}{A B:Option Addr}{n c m d:Nat}{o:Obj}(h:bN w X A n c B m d)(hz:w.alloc o=wz)(a b r q:Value):bN ((((wz.setCell ⟨w.heap.size,0,none⟩ a).setCell ⟨w.heap.size,1,none⟩ b).setCell ⟨w.heap.size,2,none⟩ r).setCell ⟨w.heap.size,3,none⟩ q) X A n c B m d:=by
 subst hz
 exact at_set4 h o a b r q
theorem lSameTexts_same(A B:Option Addr)(nn mm c d:Nat)(xs:List ByteArray)(w:World)(hn:nn=xs.length)(hm:mm=xs.length)(hl:nn≤1048576)(hA:a7 w A xs)(hB:a7 w B xs):
  Calls Tryz.prog 27 #[.slice A nn c,.slice B mm d] w fun e w' =>e= .returned (.bool true)∧Below w.heap.size w w' :=by
 refine(KR A B nn mm c d xs xs w hn hm hl (by omega) hA hB).mono ?_
 rintro e w' ⟨rfl,q,rfl⟩
 exact⟨by rw[decide_eq_true rfl],aE (Below.refl _ _) q⟩
structure TalkS (w wx:World) (a:Nat) (T:aL) (A:Option Addr) (n c:Nat) (B:Option Addr) (m d:Nat) (L:Option Addr) (lc:Nat) (ls:List ByteArray):Prop where
 x:DX wx a T A n c B m d
 l:a7 wx L ls
 b:Below w.heap.size w wx
theorem TalkS.below{w wx wy:World}{a:Nat}{T:aL}{A B L:Option Addr}{n c m d lc:Nat}{ls:List ByteArray}(h:TalkS w wx a T A n c B m d L lc ls)(hb:Below wx.heap.size wx wy):TalkS w wy a T A n c B m d L lc ls:=⟨h.x.below hb,h.l.below hb,aA h.b hb⟩
theorem TalkS.new{w wx:World}{lo lo2:Nat}{T:aL}{A B L:Option Addr}{n c m d lc:Nat}{ls:List ByteArray}(hi:dL wx lo T A n c B m d)(ho:aK wx lo2 (.slice L ls.length lc) ls)(hb:Below w.heap.size w wx):
  TalkS w (wx.alloc (.cells #[.int .i64 T.things,.int .i64 T.now.known,.slice A n c,.slice B m d] 33)) wx.heap.size T A n c B m d L lc ls:=by
 obtain⟨L',c',e,_,_,h,_⟩:=ho.form
 cases e
 exact⟨DX.new hi.at_,h.below (oA _ _),aA hb (oA _ _)⟩
theorem TalkS.wp{w wx wy:World}{lo lo2 h a:Nat}{T X:aL}{A B L A5 B5 L5:Option Addr}{n c m d lc n5 c5 m5 d5 l5:Nat}{ls an:List ByteArray}(hd:TalkS w wx a T A n c B m d L lc ls)(hi:dL wy lo X A5 n5 c5 B5 m5 d5)(ho:aK wy lo2 (.slice L5 an.length l5) an)(hb:Below wx.heap.size wx wy)(hh:wy.heap.size=h):
  ∃W,wy.alloc (.cells #[.int .i64 X.things,.int .i64 X.now.known,.slice A5 n5 c5,.slice B5 m5 d5] 33)=W∧Hid (TalkS w W a T A n c B m d L lc ls)∧Hid (TalkS w W h X A5 n5 c5 B5 m5 d5 L5 l5 an)∧Hid (Below wx.heap.size wx W):=by
 subst hh
 exact⟨_,rfl,hd.below (aA hb (oA _ _)),TalkS.new hi ho (aA hd.b hb),aA hb (oA _ _)⟩
theorem own_cap{w:World}{lo l:Nat}{L:Option Addr}{an:List ByteArray}(h:aK w lo (.slice L an.length l) an):an.length≤l:=by
 obtain⟨_,_,e,h1,_⟩:=h.form
 cases e;exact h1
theorem own_strsP{w:World}{lo l:Nat}{L:Option Addr}{an:List ByteArray}(h:aK w lo (.slice L an.length l) an):a7 w L an:=by
 obtain⟨_,_,e,_,_,h1,_⟩:=h.form
 cases e;exact h1
theorem both_set4z{w wz:World}{X:aL}{A B L:Option Addr}{n c m d:Nat}{an:List ByteArray}{o:Obj}(h:bN w X A n c B m d)(hL:a7 w L an)(hz:w.alloc o=wz)(a b r q:Value):bN ((((wz.setCell ⟨w.heap.size,0,none⟩ a).setCell ⟨w.heap.size,1,none⟩ b).setCell ⟨w.heap.size,2,none⟩ r).setCell ⟨w.heap.size,3,none⟩ q) X A n c B m d∧a7 ((((wz.setCell ⟨w.heap.size,0,none⟩ a).setCell ⟨w.heap.size,1,none⟩ b).setCell ⟨w.heap.size,2,none⟩ r).setCell ⟨w.heap.size,3,none⟩ q) L an:=by
 refine⟨at_set4z h hz a b r q,?_⟩
 subst hz
 exact hL.below (bG (oA w o) (Nat.le_refl _) a b r q)
theorem wpL_appG{W:World}{ops:Array Oper}{rest:List Oper}{o:Oper}{a:Act}{Q:Exit→Act→World→Prop}(hw:Region.wanted o (yielded ops a.tmps)=true)(s x:Operand)
  (ho:o.op= .call {callee:= .builtin .append,args:= #[s,x],argTypes:= #[28,28]}) (base:Nat) (v:Value) (xs ys:List ByteArray) (hs:a.eval s=v) (hown:aK W base v xs)
  (ad:Option Addr) (m c:Nat) (hx:a.eval x= .slice ad m c) (hm:m=ys.length) (hmc:m≤c) (hn:a7 W ad ys) (hl:xs.length+m≤4194304) (hb:base≤W.heap.size)
  (h:∀v' w',aK w' base v' (xs++ys)→W.grownBy w' v.ownBlock→wpList Tryz.prog ops Q rest (a.put o.dst v') w'):wpList Tryz.prog ops Q (o::rest) a W:=by
 obtain⟨v',w',hr,h1,h2⟩:=E2 o.type hown hm hmc hn hl hb
 exact wpList_step fun K hK=>by rw[if_pos hw];exact Lib.wp_append_run W s x _ _ ho _ _ hs hx v' w' hr (hK _ _ (h v' w' h1 h2))
theorem own_is{w:World}{lo:Nat}{v:Value}{a b c:List ByteArray}(h:aK w lo v ([]++a++b))(e:a++b=c):aK w lo v c:=by
 rw[List.nil_append,e] at h;exact h
theorem say_halves{T X Y Z:aL}{j:Nat}{ls an a1 a2:List ByteArray}(hok:dP T=true)(hl:ls.length≤40)(h:sayTo T ls=(X,an))(h1:sayTo T (ls.take j)=(Y,a1))(h2:sayTo Y (ls.drop j)=(Z,a2)):Z=X∧a1++a2=an∧an.length=ls.length∧(∀s∈an,s≠⟨#[]⟩)∧dP X=true:=by
 rw[say_good hok hl] at h
 rw[say_good hok (by rw[List.length_take];omega)] at h1
 obtain⟨rfl,rfl⟩:=Prod.mk.inj h1
 have hy:=(Y8 aH sR p5 (ls.take j) (T:=T) hok VL).1
 rw[say_good (show dP (saysT T (ls.take j)).1=true from hy) (by rw[List.length_drop];omega)] at h2
 obtain⟨rfl,rfl⟩:=Prod.mk.inj h2
 obtain⟨rfl,rfl⟩:=Prod.mk.inj h
 have e:saysT T ls=((saysT (saysT T (ls.take j)).1 (ls.drop j)).1,(saysT T (ls.take j)).2++(saysT (saysT T (ls.take j)).1 (ls.drop j)).2):=by
  have:=WT aH sR p5 (ls.take j) (ls.drop j) T
  rw[List.take_append_drop] at this;exact this
 obtain⟨k1,_,k3,k4⟩:=Y8 aH sR p5 ls (T:=T) hok VL
 refine⟨by rw[e],by rw[e,List.map_append],by rw[List.length_map];exact k4,fun s hs hn=> ?_,k1⟩
 obtain⟨x,hx,rfl⟩:=List.mem_map.1 hs
 refine k3 x hx ?_
 have:bL (cJ x)=bL ⟨#[]⟩:=by rw[hn]
 rw[kO] at this;exact this
theorem cat_settled(q:List UInt8):(⟨#[115,101,116,116,108,101,100,32]⟩:ByteArray)++cJ q=cJ (gT++32::q):=by
 apply gI
 rw[kO]
 unfold bL cJ
 rw[ByteArray.data_append]
 simp[gT]
theorem ofL_size(q:List UInt8):(cJ q).size=q.length:=rfl
theorem last_now{X:aL}(hok:dP X=true):lV X ⟨#[110,111,119]⟩=(X,tT X):=(uE hok).trans (YE aH sR p5 X)
theorem last_size{X:aL}(hok:dP X=true):(tT X).length≤60:=by
 unfold tT
 cases h:X.now.op.getLast? with
 |none=>decide
 |some s=>exact QZ ((s6 aH hok s (List.mem_of_getLast? h)).1)
theorem last_way{X:aL}(hok:dP X=true):(X.now.op=[]∧tT X=EE)∨(X.now.op≠[]∧lV X (cJ (gT++32::tT X))=(X,uQ)):=by
 unfold tT
 cases h:X.now.op.getLast? with
 |none=>exact .inl ⟨List.getLast?_eq_none_iff.1 h,rfl⟩
 |some s=>exact .inr ⟨fun e=>(by rw[e] at h;cases h),(uE hok).trans (WR aH sR p5 hok h)⟩
set_option linter.unusedSimpArgs false in
theorem wTalkSay(A:Option Addr)(nn c:Nat)(zs:List Int)(w:World)(hn:nn=zs.length)(hc:nn≤c)(hm:c≤maxLen)(hr:∀z∈zs,0≤z∧z≤255)(hA:cB .u8 w A zs)(hg:fA w):
  Calls Tryz.prog 5 #[.slice A nn c] w fun e w' =>e= .returned (.bool true)∧Below w.heap.size w w' :=by
 have HO:=zH (drawTalkSay_any A nn c zs w hn hc hm hr hA)
 have HGW:=zH hg
 have hm' :nn≤9223372036854775807:=by unfold maxLen at hm;omega
 clear hn hc hm hr hA hg
 by_cases hl:1048576<nn
 ·have hd:decide ((1048576:Int)<(nn:Int))=true:=decide_eq_true (by omega)
  go_enter Tryz.func5,Tryz.ntmps5
  go_wp2_with fail
  go_ret
  exact⟨rfl,Below.refl _ _⟩
 have hd:decide ((1048576:Int)<(nn:Int))=false:=decide_eq_false (by omega)
 clear hl
 go_enter Tryz.func5,Tryz.ntmps5
 go_wp2_with fail
 refine HO.out.mono ?_
 rintro e w1 ⟨T,A1,n1,c1,B1,m1,d1,L,lc,ls,rfl,hT,hs,hlc,hlm,hll,hL,hsh,hsz,hb⟩
 have hbel:=oA w1 (.cells #[.int .i64 T.things,.int .i64 T.now.known,.slice A1 n1 c1,.slice B1 m1 d1] 33)
 have hL0:TalkS w (w1.alloc (.cells #[.int .i64 T.things,.int .i64 T.now.known,.slice A1 n1 c1,.slice B1 m1 d1] 33)) w1.heap.size T A1 n1 c1 B1 m1 d1 L lc ls:=⟨DX.new hT,hL.below hbel,aA hb hbel⟩
 have HS:=zH hs
 have HSZ:Hid (∀x∈ls,x.size≤1048576):=fun x hx=>by have:=hsz x hx;omega
 have HLL:Hid (ls.length≤lc∧lc≤9223372036854775807∧ls.length≤1048576):=⟨hlc,hlm,hll⟩
 obtain⟨P,hP⟩:∃P,sayTo T ls=P:=⟨_,rfl⟩
 have HSX:Hid (cD P.1∧P.2.length≤40):=by unfold Hid;rw[←hP];exact sayTo_small T ls
 obtain⟨X,an⟩:=P
 have HD:=zH hP
 clear hT hs hL hsh hsz hb hP hbel hlc hlm hll
 go_upto_region 4 with fail
 obtain⟨W3,hW3⟩:∃W,w1.alloc (.cells #[.int .i64 T.things,.int .i64 T.now.known,.slice A1 n1 c1,.slice B1 m1 d1] 33)=W:=⟨_,rfl⟩
 obtain⟨a,ha⟩:∃a,w1.heap.size=a:=⟨_,rfl⟩
 rw[hW3,ha] at hL0
 rw[hW3]
 try rw[ha]
 have HL:=zH hL0
 clear hW3 ha hL0
 obtain⟨hc0,hc1,hc2,hc3⟩:=HL.out.x.cells
 go_wp2_with fail
 refine(iTalkSay_p HD HL.out.x.t HS.out HLL.out.2.2 HL.out.l HSZ.out (HGW.out.below HL.out.b)).mono ?_
 rintro e w4 ⟨A5,n5,c5,B5,m5,d5,L5,l5,rfl,ht,ho,hb⟩
 clear hc0 hc1 hc2 hc3
 go_upto_region 5 with fail
 obtain⟨h5,hh5⟩:∃h5,w4.heap.size=h5:=⟨_,rfl⟩
 obtain⟨W4,hW4,HL4,HZ,_⟩:=HL.out.wp ht ho hb hh5
 rw[hW4]
 try rw[hh5]
 clear hW4 hh5 HL ht ho hb
 obtain⟨hc0,hc1,hc2,hc3⟩:=HL4.out.x.cells
 go_wp2_with fail
 refine(sTalkSay_p HD HL4.out.x.t HS.out HLL.out.2.2 HL4.out.l HSZ.out).mono ?_
 rintro e w5 ⟨A7,n7,c7,B7,m7,d7,L7,l7,rfl,ht,ho,hb⟩
 clear hc0 hc1 hc2 hc3
 go_upto_region 6 with fail
 obtain⟨h7,hh7⟩:∃h7,w5.heap.size=h7:=⟨_,rfl⟩
 obtain⟨W5,hW5,HL5,HV,hbW⟩:=HL4.out.wp ht ho hb hh7
 have HZ5:=zH (HZ.out.below hbW.out)
 rw[hW5]
 try rw[hh7]
 clear hW5 hh7 HL4 HZ ht ho hb hbW
 obtain⟨hc0,hc1,hc2,hc3⟩:=HZ5.out.x.cells
 obtain⟨hd0,hd1,hd2,hd3⟩:=HV.out.x.cells
 go_wp2_with fail
 refine(XX X X A5 B5 A7 B7 n5 c5 m5 d5 n7 c7 m7 d7 _ HZ5.out.x.t HV.out.x.t HSX.out.1 HSX.out.1).mono ?_
 rintro e w6 ⟨⟨b,rfl,hbt⟩,hb⟩
 obtain rfl:b=true:=hbt rfl
 have HL6:=zH (HL5.out.below hb)
 have HZ6:=zH (HZ5.out.below hb)
 have HV6:=zH (HV.out.below hb)
 clear hc0 hc1 hc2 hc3 hd0 hd1 hd2 hd3 HL5 HZ5 HV hbt hb hd
 go_wp2_with fail
 refine(lSameTexts_same L5 L7 an.length an.length l5 l7 an _ rfl rfl (by have:=HSX.out.2;omega) HZ6.out.l HV6.out.l).mono ?_
 rintro e w7 ⟨rfl,hb⟩
 have HL7:=zH (HL6.out.below hb)
 have HZ7:=zH (HZ6.out.below hb)
 clear hb HL6 HZ6 HV6
 obtain⟨z,hz⟩:∃z,dP T=z:=⟨_,rfl⟩
 have HOK:=zH hz
 clear hz
 obtain⟨hc0,hc1,hc2,hc3⟩:=HL7.out.x.cells
 have HTO:=zH (q7 T A1 B1 n1 c1 m1 d1 _ HL7.out.x.t HS.out)
 rw[HOK.out] at HTO
 go_wp2_with fail
 refine HTO.out.mono ?_
 rintro e w8 ⟨rfl,hb⟩
 have HL8:=zH (HL7.out.below hb)
 have HZ8:=zH (HZ7.out.below hb)
 clear hc0 hc1 hc2 hc3 HL7 HZ7 hb HTO
 have hbad:(z=true∧ls.length≤40)∨(¬(z=true∧ls.length≤40)∧X=lW∧an.length=0):=by
  by_cases h:z=true∧ls.length≤40
  ·exact .inl h
  ·refine .inr ⟨h,?_⟩
   have h2:=HD.out
   rw[say_bad (by rw[HOK.out];exact h)] at h2
   cases h2
   exact⟨rfl,rfl⟩
 rcases hbad with⟨rfl,hl40⟩|⟨hno,hXN,hn0⟩
 ·have hd:decide ((40:Int)<(ls.length:Int))=false:=decide_eq_false (by omega)
  obtain⟨j,hj⟩:∃j,ls.length / 2=j:=⟨_,rfl⟩
  have hjI:(ls.length:Int) / 2=(j:Int):=by omega
  have hjl:j≤ls.length:=by omega
  have hlc:=HLL.out.1
  have hlm:=HLL.out.2.1
  obtain⟨P1,hP1⟩:∃P,sayTo T (ls.take j)=P:=⟨_,rfl⟩
  have HSY:Hid (cD P1.1∧P1.2.length≤40):=by unfold Hid;rw[←hP1];exact sayTo_small T _
  obtain⟨Y,an1⟩:=P1
  obtain⟨P2,hP2⟩:∃P,sayTo Y (ls.drop j)=P:=⟨_,rfl⟩
  have HSZ2:Hid (cD P2.1∧P2.2.length≤40):=by unfold Hid;rw[←hP2];exact sayTo_small Y _
  obtain⟨Z,an2⟩:=P2
  have HD1:=zH hP1
  have HD2:=zH hP2
  have HHV:=zH (say_halves HOK.out hl40 HD.out hP1 hP2)
  clear hP1 hP2 hd hj
  go_upto_region 11 with fail
  try rw[hjI]
  clear hjI
  obtain⟨W8,hW8⟩:∃W,w8=W:=⟨_,rfl⟩
  rw[hW8] at HL8 HZ8⊢
  clear hW8
  have HQ11:Hid (∀W,Below W8.heap.size W8 W→(W.cell? ⟨a,0,none⟩=some (.int .i64 T.things)∧W.cell? ⟨a,1,none⟩=some (.int .i64 T.now.known)∧W.cell? ⟨a,2,none⟩=some (.slice A1 n1 c1)∧W.cell? ⟨a,3,none⟩=some (.slice B1 m1 d1))):=fun W hb=>(HL8.out.below hb).x.cells
  have HR11:Hid (∀W,Below W8.heap.size W8 W→Calls Tryz.prog 25 #[.agg #[.int .i64 T.things,.int .i64 T.now.known,.slice A1 n1 c1,.slice B1 m1 d1],.slice L j lc] W (SayP Y an1 W)):=fun W hb=>iTalkSay_p' (ln:=j) HD1 (HL8.out.below hb).x.t HS.out (by rw[List.length_take];omega) (by omega) ((HL8.out.below hb).l.take j) (fun x hx=>HSZ.out x (List.mem_of_mem_take hx)) (HGW.out.below (HL8.out.below hb).b)
  obtain⟨hc0,hc1,hc2,hc3⟩:=HQ11.out W8 (Below.refl _ _)
  have hjlc:j≤lc:=by omega
  go_cut [10,11] from 70 to 78 (fun s10 s11 wx=>∃h A' n' c' B' m' d' L' l',s10= .pointer (some ⟨h,0,none⟩)∧s11= .slice L' an1.length l'∧an1.length≤l'∧TalkS w wx h Y A' n' c' B' m' d' L' l' an1∧Below W8.heap.size W8 wx)
  case first=>
   have HB:Hid (Below W8.heap.size W8 W8.drew):=aE (Below.refl _ _) 1
   have HBW:=zH HL8.out.b
   refine wp_region_held_drew (S:=(fun w' =>(w'.cell? ⟨a,0,none⟩=some (.int .i64 T.things)∧w'.cell? ⟨a,1,none⟩=some (.int .i64 T.now.known)∧w'.cell? ⟨a,2,none⟩=some (.slice A1 n1 c1)∧w'.cell? ⟨a,3,none⟩=some (.slice B1 m1 d1)))) (by kernel_rfl) ?_ (fun hHeld=> ?_)
   ·exact HQ11.out _ HB.out
   obtain⟨wd,hwd⟩:∃wd,W8.drew=wd:=⟨_,rfl⟩
   rw[hwd] at HB hHeld⊢
   clear hwd
   refine zT 0 (h:=?_)
   try simp only[Act.put,zS]
   refine zT 1 (h:=?_)
   try simp only[Act.put,zS]
   refine zT 2 (h:=?_)
   try simp only[Act.put,zS]
   refine zT 3 (h:=?_)
   try simp only[Act.put,zS]
   refine wpAnyH_ready (rs:=[4,8]) (by kernel_rfl) (by simp) ?_
   refine AllReadyH.cons rfl (fun K hK=> ?_) ?_
   ·(go_simp;go_at_call 25;(try have hzl:=HZV.out.lt);refine(HR11.out _ HB.out).mono ?_;rintro e wT ⟨A',n',c',B',m',d',L',l',rfl,hown,hO,hb⟩;have hll' :=own_cap hO;replace HB:=zH (aA HB.out hb);(try replace HZV:=zH (HZV.out.below hb));(try have HXK:=zH (fun a b r q=>And.intro (hown.keep (jF hzl a b r q)).at_ (own_strsP (hO.keep (nL hzl a b r q)))));have HI:=zH (And.intro hown.at_ (own_strsP hO));clear hb hown hO)
    refine hK.out _ _ ?_ (fun hHeld=> ?_)
    ·exact HQ11.out _ HB.out
    clear hK K
    try simp only[Act.put,zS]
    refine zT 5 (h:=?_)
    try simp only[Act.put,zS]
    refine zT 6 (h:=?_)
    try simp only[Act.put,zS]
    refine zT 7 (h:=?_)
    try simp only[Act.put,zS]
    refine wpAnyH_ready (rs:=[8]) (by kernel_rfl) (by simp) ?_
    refine AllReadyH.cons rfl (fun K hK=> ?_) AllReadyH.nil
    (go_simp;obtain⟨wz,hwz,HZV,HGL,HBn,HBl⟩:=al_genP HB.out HB.out.size;rw[hwz];(try have HXK:=zH (fun a b r q=>both_set4z HI.out.1 HI.out.2 hwz a b r q));replace HB:=HBn;clear hwz HBl)
    refine hK.out _ _ ?_ (fun hHeld=> ?_)
    ·exact HQ11.out _ HB.out
    clear hK K
    try simp only[Act.put,zS]
    refine wpAnyH_ready (rs:=[9]) (by kernel_rfl) (by simp) ?_
    refine AllReadyH.cons rfl (fun K hK=> ?_) AllReadyH.nil
    (obtain⟨⟨ha0,ha1,ha2,ha3,ha4,ha5,ha6,ha7⟩,⟨hb2,hb3⟩,⟨hb4,hb5⟩,⟨hb6,hb7⟩,HOUT⟩:=HZV.out.store4 (.int .i64 Y.things) (.int .i64 Y.now.known) (.slice A' n' c') (.slice B' m' d');have HIF:=zH (HXK.out (.int .i64 Y.things) (.int .i64 Y.now.known) (.slice A' n' c') (.slice B' m' d'));replace HB:=zH (bG HB.out HGL.out (.int .i64 Y.things) (.int .i64 Y.now.known) (.slice A' n' c') (.slice B' m' d'));go_simp)
    refine hK.out _ _ ?_ (fun hHeld=> ?_)
    ·exact HQ11.out _ HB.out
    clear hK K
    try simp only[Act.put,zS]
    refine wpAnyH_ready (rs:=[10]) (by kernel_rfl) (by simp) ?_
    refine AllReadyH.cons rfl (fun K hK=> ?_) AllReadyH.nil
    go_simp
    refine hK.out _ _ ?_ (fun hHeld=> ?_)
    ·exact HQ11.out _ HB.out
    clear hK K
    try simp only[Act.put,zS]
    refine wpAnyH_done (by kernel_rfl) ?_ _
    go_wp2_with fail
    go_meet
    exact⟨_,A',n',c',B',m',d',L',l',rfl,rfl,hll',⟨⟨HOUT.out,HIF.out.1⟩,HIF.out.2,aA HBW.out HB.out⟩,HB.out⟩
   refine AllReadyH.cons rfl (fun K hK=> ?_) ?_
   ·(go_simp;obtain⟨wz,hwz,HZV,HGL,HBn,HBl⟩:=al_genP HB.out HB.out.size;rw[hwz];(try have HXK:=zH (fun a b r q=>both_set4z HI.out.1 HI.out.2 hwz a b r q));replace HB:=HBn;clear hwz HBl)
    refine hK.out _ _ ?_ (fun hHeld=> ?_)
    ·exact HQ11.out _ HB.out
    clear hK K
    try simp only[Act.put,zS]
    refine wpAnyH_ready (rs:=[4]) (by kernel_rfl) (by simp) ?_
    refine AllReadyH.cons rfl (fun K hK=> ?_) AllReadyH.nil
    (go_simp;go_at_call 25;(try have hzl:=HZV.out.lt);refine(HR11.out _ HB.out).mono ?_;rintro e wT ⟨A',n',c',B',m',d',L',l',rfl,hown,hO,hb⟩;have hll' :=own_cap hO;replace HB:=zH (aA HB.out hb);(try replace HZV:=zH (HZV.out.below hb));(try have HXK:=zH (fun a b r q=>And.intro (hown.keep (jF hzl a b r q)).at_ (own_strsP (hO.keep (nL hzl a b r q)))));have HI:=zH (And.intro hown.at_ (own_strsP hO));clear hb hown hO)
    refine hK.out _ _ ?_ (fun hHeld=> ?_)
    ·exact HQ11.out _ HB.out
    clear hK K
    try simp only[Act.put,zS]
    refine zT 5 (h:=?_)
    try simp only[Act.put,zS]
    refine zT 6 (h:=?_)
    try simp only[Act.put,zS]
    refine zT 7 (h:=?_)
    try simp only[Act.put,zS]
    refine wpAnyH_ready (rs:=[9]) (by kernel_rfl) (by simp) ?_
    refine AllReadyH.cons rfl (fun K hK=> ?_) AllReadyH.nil
    (obtain⟨⟨ha0,ha1,ha2,ha3,ha4,ha5,ha6,ha7⟩,⟨hb2,hb3⟩,⟨hb4,hb5⟩,⟨hb6,hb7⟩,HOUT⟩:=HZV.out.store4 (.int .i64 Y.things) (.int .i64 Y.now.known) (.slice A' n' c') (.slice B' m' d');have HIF:=zH (HXK.out (.int .i64 Y.things) (.int .i64 Y.now.known) (.slice A' n' c') (.slice B' m' d'));replace HB:=zH (bG HB.out HGL.out (.int .i64 Y.things) (.int .i64 Y.now.known) (.slice A' n' c') (.slice B' m' d'));go_simp)
    refine hK.out _ _ ?_ (fun hHeld=> ?_)
    ·exact HQ11.out _ HB.out
    clear hK K
    try simp only[Act.put,zS]
    refine wpAnyH_ready (rs:=[10]) (by kernel_rfl) (by simp) ?_
    refine AllReadyH.cons rfl (fun K hK=> ?_) AllReadyH.nil
    go_simp
    refine hK.out _ _ ?_ (fun hHeld=> ?_)
    ·exact HQ11.out _ HB.out
    clear hK K
    try simp only[Act.put,zS]
    refine wpAnyH_done (by kernel_rfl) ?_ _
    go_wp2_with fail
    go_meet
    exact⟨_,A',n',c',B',m',d',L',l',rfl,rfl,hll',⟨⟨HOUT.out,HIF.out.1⟩,HIF.out.2,aA HBW.out HB.out⟩,HB.out⟩
   exact AllReadyH.nil
  case rest=>
   obtain⟨h10,A10,n10,c10,B10,m10,d10,L10,l10,rfl,rfl,hll10,hds,hbw⟩:=hcut
   obtain⟨W9,rfl⟩:∃W,W=wc:=⟨_,rfl⟩
   have HY9:=zH hds
   have HL9:=zH (HL8.out.below hbw)
   have HZ9:=zH (HZ8.out.below hbw)
   have HLC10:=zH hll10
   clear hds hbw hll10 hc0 hc1 hc2 hc3 HQ11 HR11 HL8 HZ8
   obtain⟨L2,hL2⟩:∃L2,(if lc=j then L else L.map (·.add j))=L2:=⟨_,rfl⟩
   have hsl:∀W:World,(Instr.slice 28 (.slice L ls.length lc) (some (.int .i64 (j:Int))) none none).run Tryz.prog W= .ok (.slice L2 (ls.length-j) (lc-j)) W:=fun W=>by rw[←hL2];exact run_from W hjl
   have HQ12:Hid (∀W,Below W9.heap.size W9 W→(W.cell? ⟨h10,0,none⟩=some (.int .i64 Y.things)∧W.cell? ⟨h10,1,none⟩=some (.int .i64 Y.now.known)∧W.cell? ⟨h10,2,none⟩=some (.slice A10 n10 c10)∧W.cell? ⟨h10,3,none⟩=some (.slice B10 m10 d10))):=fun W hb=>(HY9.out.below hb).x.cells
   have HR12:Hid (∀W,Below W9.heap.size W9 W→Calls Tryz.prog 25 #[.agg #[.int .i64 Y.things,.int .i64 Y.now.known,.slice A10 n10 c10,.slice B10 m10 d10],.slice L2 (ls.length-j) (lc-j)] W (SayP Z an2 W)):=fun W hb=>iTalkSay_p' (ln:=ls.length-j) HD2 (HY9.out.below hb).x.t HSY.out.1 (by rw[List.length_drop]) (by have:=HLL.out.2.2;omega) (by rw[←hL2];exact(HL9.out.below hb).l.drop HLL.out.1) (fun x hx=>HSZ.out x (List.mem_of_mem_drop hx)) (HGW.out.below (HL9.out.below hb).b)
   clear hL2
   obtain⟨hc0,hc1,hc2,hc3⟩:=HQ12.out W9 (Below.refl _ _)
   go_upto_region 12 with fail
   go_cut [12,13] from 78 to 86 (fun s12 s13 wx=>∃h A' n' c' B' m' d' L' l',s12= .pointer (some ⟨h,0,none⟩)∧s13= .slice L' an2.length l'∧an2.length≤l'∧TalkS w wx h Z A' n' c' B' m' d' L' l' an2∧Below W9.heap.size W9 wx)
   case first=>
    have HB:Hid (Below W9.heap.size W9 W9.drew):=aE (Below.refl _ _) 1
    have HBW:=zH HL9.out.b
    refine wp_region_held_drew (S:=(fun w' =>(w'.cell? ⟨h10,0,none⟩=some (.int .i64 Y.things)∧w'.cell? ⟨h10,1,none⟩=some (.int .i64 Y.now.known)∧w'.cell? ⟨h10,2,none⟩=some (.slice A10 n10 c10)∧w'.cell? ⟨h10,3,none⟩=some (.slice B10 m10 d10)))) (by kernel_rfl) ?_ (fun hHeld=> ?_)
    ·exact HQ12.out _ HB.out
    obtain⟨wd,hwd⟩:∃wd,W9.drew=wd:=⟨_,rfl⟩
    rw[hwd] at HB hHeld⊢
    clear hwd
    refine zT 0 (h:=?_)
    try simp only[Act.put,zS]
    refine zT 1 (h:=?_)
    try simp only[Act.put,zS]
    refine zT 2 (h:=?_)
    try simp only[Act.put,zS]
    refine zT 3 (h:=?_)
    try simp only[Act.put,zS]
    refine wpAnyH_ready (rs:=[4,8]) (by kernel_rfl) (by simp) ?_
    refine AllReadyH.cons rfl (fun K hK=> ?_) ?_
    ·(go_simp;go_at_call 25;(try have hzl:=HZV.out.lt);refine(HR12.out _ HB.out).mono ?_;rintro e wT ⟨A',n',c',B',m',d',L',l',rfl,hown,hO,hb⟩;have hll' :=own_cap hO;replace HB:=zH (aA HB.out hb);(try replace HZV:=zH (HZV.out.below hb));(try have HXK:=zH (fun a b r q=>And.intro (hown.keep (jF hzl a b r q)).at_ (own_strsP (hO.keep (nL hzl a b r q)))));have HI:=zH (And.intro hown.at_ (own_strsP hO));clear hb hown hO)
     refine hK.out _ _ ?_ (fun hHeld=> ?_)
     ·exact HQ12.out _ HB.out
     clear hK K
     try simp only[Act.put,zS]
     refine zT 5 (h:=?_)
     try simp only[Act.put,zS]
     refine zT 6 (h:=?_)
     try simp only[Act.put,zS]
     refine zT 7 (h:=?_)
     try simp only[Act.put,zS]
     refine wpAnyH_ready (rs:=[8]) (by kernel_rfl) (by simp) ?_
     refine AllReadyH.cons rfl (fun K hK=> ?_) AllReadyH.nil
     (go_simp;obtain⟨wz,hwz,HZV,HGL,HBn,HBl⟩:=al_genP HB.out HB.out.size;rw[hwz];(try have HXK:=zH (fun a b r q=>both_set4z HI.out.1 HI.out.2 hwz a b r q));replace HB:=HBn;clear hwz HBl)
     refine hK.out _ _ ?_ (fun hHeld=> ?_)
     ·exact HQ12.out _ HB.out
     clear hK K
     try simp only[Act.put,zS]
     refine wpAnyH_ready (rs:=[9]) (by kernel_rfl) (by simp) ?_
     refine AllReadyH.cons rfl (fun K hK=> ?_) AllReadyH.nil
     (obtain⟨⟨ha0,ha1,ha2,ha3,ha4,ha5,ha6,ha7⟩,⟨hb2,hb3⟩,⟨hb4,hb5⟩,⟨hb6,hb7⟩,HOUT⟩:=HZV.out.store4 (.int .i64 Z.things) (.int .i64 Z.now.known) (.slice A' n' c') (.slice B' m' d');have HIF:=zH (HXK.out (.int .i64 Z.things) (.int .i64 Z.now.known) (.slice A' n' c') (.slice B' m' d'));replace HB:=zH (bG HB.out HGL.out (.int .i64 Z.things) (.int .i64 Z.now.known) (.slice A' n' c') (.slice B' m' d'));go_simp)
     refine hK.out _ _ ?_ (fun hHeld=> ?_)
     ·exact HQ12.out _ HB.out
     clear hK K
     try simp only[Act.put,zS]
     refine wpAnyH_ready (rs:=[10]) (by kernel_rfl) (by simp) ?_
     refine AllReadyH.cons rfl (fun K hK=> ?_) AllReadyH.nil
     go_simp
     refine hK.out _ _ ?_ (fun hHeld=> ?_)
     ·exact HQ12.out _ HB.out
     clear hK K
     try simp only[Act.put,zS]
     refine wpAnyH_done (by kernel_rfl) ?_ _
     go_wp2_with fail
     go_meet
     exact⟨_,A',n',c',B',m',d',L',l',rfl,rfl,hll',⟨⟨HOUT.out,HIF.out.1⟩,HIF.out.2,aA HBW.out HB.out⟩,HB.out⟩
    refine AllReadyH.cons rfl (fun K hK=> ?_) ?_
    ·(go_simp;obtain⟨wz,hwz,HZV,HGL,HBn,HBl⟩:=al_genP HB.out HB.out.size;rw[hwz];(try have HXK:=zH (fun a b r q=>both_set4z HI.out.1 HI.out.2 hwz a b r q));replace HB:=HBn;clear hwz HBl)
     refine hK.out _ _ ?_ (fun hHeld=> ?_)
     ·exact HQ12.out _ HB.out
     clear hK K
     try simp only[Act.put,zS]
     refine wpAnyH_ready (rs:=[4]) (by kernel_rfl) (by simp) ?_
     refine AllReadyH.cons rfl (fun K hK=> ?_) AllReadyH.nil
     (go_simp;go_at_call 25;(try have hzl:=HZV.out.lt);refine(HR12.out _ HB.out).mono ?_;rintro e wT ⟨A',n',c',B',m',d',L',l',rfl,hown,hO,hb⟩;have hll' :=own_cap hO;replace HB:=zH (aA HB.out hb);(try replace HZV:=zH (HZV.out.below hb));(try have HXK:=zH (fun a b r q=>And.intro (hown.keep (jF hzl a b r q)).at_ (own_strsP (hO.keep (nL hzl a b r q)))));have HI:=zH (And.intro hown.at_ (own_strsP hO));clear hb hown hO)
     refine hK.out _ _ ?_ (fun hHeld=> ?_)
     ·exact HQ12.out _ HB.out
     clear hK K
     try simp only[Act.put,zS]
     refine zT 5 (h:=?_)
     try simp only[Act.put,zS]
     refine zT 6 (h:=?_)
     try simp only[Act.put,zS]
     refine zT 7 (h:=?_)
     try simp only[Act.put,zS]
     refine wpAnyH_ready (rs:=[9]) (by kernel_rfl) (by simp) ?_
     refine AllReadyH.cons rfl (fun K hK=> ?_) AllReadyH.nil
     (obtain⟨⟨ha0,ha1,ha2,ha3,ha4,ha5,ha6,ha7⟩,⟨hb2,hb3⟩,⟨hb4,hb5⟩,⟨hb6,hb7⟩,HOUT⟩:=HZV.out.store4 (.int .i64 Z.things) (.int .i64 Z.now.known) (.slice A' n' c') (.slice B' m' d');have HIF:=zH (HXK.out (.int .i64 Z.things) (.int .i64 Z.now.known) (.slice A' n' c') (.slice B' m' d'));replace HB:=zH (bG HB.out HGL.out (.int .i64 Z.things) (.int .i64 Z.now.known) (.slice A' n' c') (.slice B' m' d'));go_simp)
     refine hK.out _ _ ?_ (fun hHeld=> ?_)
     ·exact HQ12.out _ HB.out
     clear hK K
     try simp only[Act.put,zS]
     refine wpAnyH_ready (rs:=[10]) (by kernel_rfl) (by simp) ?_
     refine AllReadyH.cons rfl (fun K hK=> ?_) AllReadyH.nil
     go_simp
     refine hK.out _ _ ?_ (fun hHeld=> ?_)
     ·exact HQ12.out _ HB.out
     clear hK K
     try simp only[Act.put,zS]
     refine wpAnyH_done (by kernel_rfl) ?_ _
     go_wp2_with fail
     go_meet
     exact⟨_,A',n',c',B',m',d',L',l',rfl,rfl,hll',⟨⟨HOUT.out,HIF.out.1⟩,HIF.out.2,aA HBW.out HB.out⟩,HB.out⟩
    exact AllReadyH.nil
   case rest=>
    obtain⟨h12,A12,n12,c12,B12,m12,d12,L12,l12,rfl,rfl,hll12,hds,hbw⟩:=hcut
    obtain⟨W10,rfl⟩:∃W,W=wc:=⟨_,rfl⟩
    have HC:=zH hds
    have HY:=zH (HY9.out.below hbw)
    have HZ:=zH (HZ9.out.below hbw)
    have HLC12:=zH hll12
    have HB:=zH hds.b
    clear hds hbw hll12 hc0 hc1 hc2 hc3 HQ12 HR12 HL9 HZ9 HY9 hsl
    have hlen:(an.length:Int)=(ls.length:Int):=by have:=HHV.out.2.2.1;omega
    have HXO:Hid (dP X=true):=HHV.out.2.2.2.2
    have hal:an.length≤40:=HSX.out.2
    go_wp2_with fail
    go_loopw [14] (fun i wr=>∃k:Nat,k≤an.length∧i= .int .i64 k∧Hid (TalkS w wr h5 X A5 n5 c5 B5 m5 d5 L5 l5 an)∧Hid (TalkS w wr h12 Z A12 n12 c12 B12 m12 d12 L12 l12 an2)∧Hid (TalkS w wr h10 Y A10 n10 c10 B10 m10 d10 L10 l10 an1)) (fun i _=>an.length-(Go.RowKit.intOf i).toNat)
    case atStart=>exact⟨0,Nat.zero_le _,rfl,HZ,HC,HY⟩
    case round=>
     clear HZ HC HY
     obtain⟨k,hk,rfl,HZ,HC,HY⟩:=hrel
     by_cases hlt:k<an.length
     ·obtain⟨b,off,x,rfl,he0,hx,_⟩:=HZ.out.l.elem hlt
      have hne:x≠⟨#[]⟩:=HHV.out.2.2.2.1 x (mT hx)
      have k1:(x.toList==[])=false:=j3 (l:=[]) hne
      have k2:x.toList.isEmpty=false:=by
       cases h:x.toList with
       |nil=>rw[h] at k1;cases k1
       |cons a l=>rfl
      clear hne
      go_wp2_with fail
      go_roundw
      case rel=>exact⟨k+1,by omega,by go_num,HZ,HC,HY⟩
      case measure=>simp[Go.RowKit.intOf];omega
     ·obtain rfl:k=an.length:=by omega
      obtain⟨hd0,hd1,hd2,hd3⟩:=HZ.out.x.cells
      have HWAY:=zH (last_way HXO.out)
      have HQS:=zH (last_size HXO.out)
      have HD3:=zH (last_now HXO.out)
      obtain⟨qu,hqu⟩:∃q,tT X=q:=⟨_,rfl⟩
      rw[hqu] at HWAY HQS HD3
      clear hqu
      go_wp2_with fail
      refine(iTalkLine_p HD3 HZ.out.x.t HSX.out.1 (show(⟨#[110,111,119]⟩:ByteArray).size≤1048576 by decide) (HGW.out.below HZ.out.b)).mono ?_
      rintro e w11 ⟨A15,n15,c15,B15,m15,d15,rfl,ht,hb⟩
      obtain⟨y,hy⟩:∃y,cJ qu=y:=⟨_,rfl⟩
      obtain⟨P3,hP3⟩:∃P,lV X (⟨#[115,101,116,116,108,101,100,32]⟩++y)=P:=⟨_,rfl⟩
      obtain⟨V,a3⟩:=P3
      have HQY:Hid ((X.now.op=[]∧qu=EE)∨(X.now.op≠[]∧a3=uQ)):=by
       rcases HWAY.out with h|⟨h1,h2⟩
       ·exact .inl h
       ·refine .inr ⟨h1,?_⟩
        rw[←hy,cat_settled] at hP3
        rw[hP3] at h2
        cases h2;rfl
      have hys:y.size≤60:=by rw[←hy];exact HQS.out
      have HYN:=zH hy
      have HD4:=zH hP3
      rw[hy]
      clear hd0 hd1 hd2 hd3 hy hP3
      go_upto_region 19 with fail
      have hb11:=aA hb (oA w11 (.cells #[.int .i64 X.things,.int .i64 X.now.known,.slice A15 n15 c15,.slice B15 m15 d15] 33))
      obtain⟨W11,hW11⟩:∃W,w11.alloc (.cells #[.int .i64 X.things,.int .i64 X.now.known,.slice A15 n15 c15,.slice B15 m15 d15] 33)=W:=⟨_,rfl⟩
      rw[hW11] at hb11
      rw[hW11]
      have HZ11:=zH (HZ.out.below hb11)
      have HC11:=zH (HC.out.below hb11)
      have HY11:=zH (HY.out.below hb11)
      clear hb11 hW11 hb ht HZ HC HY
      have hz:(9223372036854775807<8+y.size)=False:=by simp;omega
      obtain⟨hd0,hd1,hd2,hd3⟩:=HZ11.out.x.cells
      go_wp2_with fail
      refine(iTalkLine_p HD4 HZ11.out.x.t HSX.out.1 (by rw[ByteArray.size_append];show 8+y.size≤1048576;omega) (HGW.out.below HZ11.out.b)).mono ?_
      rintro e w12 ⟨A17,n17,c17,B17,m17,d17,rfl,ht,hb⟩
      clear hd0 hd1 hd2 hd3 hz
      go_upto_region 20 with fail
      have hb12:=aA hb (oA w12 (.cells #[.int .i64 V.things,.int .i64 V.now.known,.slice A17 n17 c17,.slice B17 m17 d17] 33))
      obtain⟨W12,hW12⟩:∃W,w12.alloc (.cells #[.int .i64 V.things,.int .i64 V.now.known,.slice A17 n17 c17,.slice B17 m17 d17] 33)=W:=⟨_,rfl⟩
      rw[hW12] at hb12
      rw[hW12]
      have HZ12:=zH (HZ11.out.below hb12)
      have HC12:=zH (HC11.out.below hb12)
      have HY12:=zH (HY11.out.below hb12)
      clear hb12 hW12 hb ht HZ11 HC11 HY11
      obtain⟨hd0,hd1,hd2,hd3⟩:=HZ12.out.x.cells
      obtain⟨he0,he1,he2,he3⟩:=HC12.out.x.cells
      go_wp2_with fail
      refine(XX Z X A12 B12 A5 B5 n12 c12 m12 d12 n5 c5 m5 d5 _ HC12.out.x.t HZ12.out.x.t HSZ2.out.1 HSX.out.1).mono ?_
      rintro e w13 ⟨⟨b,rfl,hbt⟩,hb⟩
      obtain rfl:b=true:=hbt HHV.out.1
      have HZ13:=zH (HZ12.out.below hb)
      have HC13:=zH (HC12.out.below hb)
      have HY13:=zH (HY12.out.below hb)
      clear hb hbt hd0 hd1 hd2 hd3 he0 he1 he2 he3 HZ12 HC12 HY12
      have hbA:=oA w13 (.cells #[] 9)
      have HO0:Hid (aK (w13.alloc (.cells #[] 9)) w13.heap.size (.slice (some ⟨w13.heap.size,0,none⟩) 0 0) []):=aK.lit w13 w13.heap.size [] (Nat.le_refl _) (by simp[maxLen])
      have HBA:=zH hbA
      have HLY:=zH (HY13.out.l.below hbA)
      have HA1:Hid (an1.length≤40∧an2.length≤40):=⟨HSY.out.2,HSZ2.out.2⟩
      clear hbA
      go_wp2_with (first
       |(at_builtin;refine wpL_appG (W:=w13.alloc (.cells #[] 9)) (by rfl) _ _ rfl w13.heap.size (.slice (some ⟨w13.heap.size,0,none⟩) 0 0) [] an1 rfl HO0.out L10 an1.length l10 rfl rfl HLC10.out HLY.out (by have:=HA1.out;simp;omega) (by rw[World.size_alloc];omega) ?_;intro v1 w14 ho1 hg1;have HB14:=zH (B4 HBA.out (by rw[World.size_alloc];omega) HO0.out (Nat.le_refl _) hg1);have HO1:=zH ho1;have HLZ:=zH (HC13.out.l.below HB14.out);clear ho1 hg1)
       |(at_builtin;refine wpL_appG (W:=w14) (by rfl) _ _ rfl w13.heap.size v1 ([]++an1) an2 rfl HO1.out L12 an2.length l12 rfl rfl HLC12.out HLZ.out (by have:=HA1.out;simp;omega) HB14.out.size ?_;intro v2 w15 ho2 hg2;have HB15:=zH (B4 HB14.out HB14.out.size HO1.out (Nat.le_refl _) hg2);have ho3:=own_is ho2 HHV.out.2.1;obtain⟨L20,l20,rfl,_,_,hs20,_⟩:=ho3.form;have HS20:=zH hs20;clear ho2 hg2 ho3 hs20))
      refine(lSameTexts_same L20 L5 an.length an.length l20 l5 an _ rfl rfl (by omega) HS20.out (HZ13.out.l.below HB15.out)).mono ?_
      rintro e w16 ⟨rfl,hb⟩
      have HZ16:=zH (HZ13.out.below (aA HB15.out hb))
      clear hb
      have hleq:((an.length:Int)==(ls.length:Int))=true:=by rw[hlen];simp
      obtain⟨hd0,hd1,hd2,hd3⟩:=HZ16.out.x.cells
      have hn5:=HZ16.out.x.t.hn
      rcases HQY.out with⟨h1,h2⟩|⟨h1,h2⟩
      ·have k1:(y.toList==[110,111,110,101])=true:=by rw[←HYN.out,h2];exact lit_is rfl
       have k2:((n5:Int)==0)=true:=by rw[hn5,h1];rfl
       clear h1 h2 hn5 hlen
       go_wp2_with fail
       go_ret
       exact⟨rfl,HZ16.out.b⟩
      ·have k3:((cJ a3).toList==[110,111])=true:=by rw[h2];exact lit_is rfl
       have k2:((n5:Int)==0)=false:=by
        rw[hn5,beq_eq_false_iff_ne]
        intro e
        exact h1 (List.eq_nil_of_length_eq_zero (by omega))
       clear h1 h2 hn5 hlen
       rcases hq:(y.toList==[110,111,110,101]) with _|_
       ·go_wp2_with fail
        go_ret
        exact⟨rfl,HZ16.out.b⟩
       ·go_wp2_with fail
        go_ret
        exact⟨rfl,HZ16.out.b⟩
 ·have HXN:=zH hXN
  have hwv:z=false∨(z=true∧decide ((40:Int)<(ls.length:Int))=true):=by
   cases z with
   |false=>exact .inl rfl
   |true=>exact .inr ⟨rfl,decide_eq_true (by have h40:¬ls.length≤40:=fun h=>hno ⟨rfl,h⟩;omega)⟩
  have hz0:((an.length:Int)==(0:Int))=true:=by rw[hn0];rfl
  clear hno hXN hn0
  rcases hwv with rfl|⟨rfl,hd⟩
  ·obtain⟨hd0,hd1,hd2,hd3⟩:=HZ8.out.x.cells
   go_wp2_with fail
   refine(lNoTalk X A5 B5 n5 c5 m5 d5 _ HZ8.out.x.t HSX.out.1).mono ?_
   rintro e w9 ⟨⟨b,rfl,hbt⟩,hb⟩
   obtain rfl:b=true:=hbt HXN.out
   have HL9:=zH (HL8.out.below hb)
   clear hd0 hd1 hd2 hd3 hbt hb
   go_wp2_with fail
   refine(lAlive _).mono ?_
   rintro e w' ⟨rfl,rfl⟩
   go_wp2_with fail
   go_ret
   exact⟨rfl,HL9.out.b⟩
  ·obtain⟨hd0,hd1,hd2,hd3⟩:=HZ8.out.x.cells
   go_wp2_with fail
   refine(lNoTalk X A5 B5 n5 c5 m5 d5 _ HZ8.out.x.t HSX.out.1).mono ?_
   rintro e w9 ⟨⟨b,rfl,hbt⟩,hb⟩
   obtain rfl:b=true:=hbt HXN.out
   have HL9:=zH (HL8.out.below hb)
   clear hd0 hd1 hd2 hd3 hbt hb
   go_wp2_with fail
   refine(lAlive _).mono ?_
   rintro e w' ⟨rfl,rfl⟩
   go_wp2_with fail
   go_ret
   exact⟨rfl,HL9.out.b⟩
end Go.Proofs.YtfhjcacfchkdpaaGreatDoor

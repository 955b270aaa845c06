/-
  What the proofs of this seat's statements share (Deny, Sign, Held).
-/
import Derived.Deep.RegionHeld3
import Derived.OrdersIn
import Derived.RangeFuncCalls
import Derived.TacticsIn
import Derived.Test.YtfhjcacfchkdpaaGreatDoorU7
set_option maxRecDepth 100000
set_option maxHeartbeats 32000000
namespace Go.Proofs.YtfhjcacfchkdpaaGreatDoor
open Go.RowKit
def o4(s:Int)(f:Int→Bool):Bool:=(List.range 8).all fun w=> !aI s w|| !f (bZ w)
def BP(s:Int)(f:Int→Bool)(k:Nat):Prop:=∀j,j<k→aI s j=true→f (bZ j)=false
theorem dH{s:Int}{f:Int→Bool}{k:Nat}(h:BP s f k)(hk:aI s k=true→f (bZ k)=false):BP s f (k+1):=fun j hj=>by
 by_cases e:j=k
 ·subst e;exact hk
 ·exact h j (by omega)
theorem TE{s:Int}{k:Nat}(h:aI s k=true):bZ k≤s:=by
 have:=Nat.ge_two_pow_of_testBit (x:=s.toNat) (i:=k) h
 have h2:=Nat.two_pow_pos k
 unfold bZ
 omega
theorem P3{s:Int}{f:Int→Bool}{k:Nat}(h:BP s f k)(hk:s<bZ k):o4 s f=true:=by
 unfold o4
 rw[List.all_eq_true]
 intro w _
 cases hw:aI s w
 ·rfl
 ·have h1:=TE hw
  have:w<k:=by
   rcases Nat.lt_or_ge w k with h2|h2
   ·exact h2
   ·have:2^k≤2^w:=Nat.pow_le_pow_right (by omega) h2
    unfold bZ at h1 hk
    omega
  rw[h w this hw];rfl
theorem mW{s:Int}{f:Int→Bool}{k:Nat}(hk:k<8)(h1:aI s k=true)(h2:f (bZ k)=true):o4 s f=false:=by
 unfold o4
 rw[List.all_eq_false]
 exact⟨k,List.mem_range.2 hk,by rw[h1,h2];decide⟩
theorem cI{a b:Int}{v:Bool}(h:Hid (aB a b=v))(ha:0≤a)(ha2:a<1024)(hb:0≤b)(hb2:b<1024)(w:World):
  Calls Tryz.prog 119 #[.int .i64 a,.int .i64 b] w fun e w' =>e= .returned (.bool v)∧w=w' :=
 (xQ a b ha ha2 hb hb2 w).mono fun _ _ ⟨he,hw⟩=>⟨he.trans (aM h.out),hw⟩
theorem fP{s:Int}{k:Nat}{p:Int}{v:Bool}(hp:bZ k=p)(h:aI s k=v):Hid (aB p s=v):=by
 unfold Hid
 subst hp
 cases v
 ·cases h2:aB (bZ k) s
  ·rfl
  ·rw[(mU k).1 h2] at h;cases h
 ·exact(mU k).2 h
theorem J2(s:Int)(b o n c:Nat)(f:Int→Bool)(w:World)(hs0:0≤s)(hs:s<256)(hT:oT w b o n s f):
  Calls Tryz.prog 189 #[.int .i64 s,.slice (some ⟨b,o,none⟩) n c] w fun e w' =>e= .returned (.bool (o4 s f))∧w=w' :=by
 have HT:=zH hT
 clear hT
 go_enter Tryz.func189,Tryz.ntmps189
 go_wp2
 go_loop [5] (fun i=>∃k:Nat,k≤8∧i= .int .i64 k∧Hid (BP s f k)) (fun i=>8-(Go.RowKit.intOf i).toNat)
 case atStart=>exact⟨0,Nat.zero_le _,rfl,fun j h=>by omega⟩
 case round=>
  obtain⟨k,hk,rfl,hsofar⟩:=hrel
  by_cases hle:bZ k≤s
  ·have h8:k=0∨k=1∨k=2∨k=3∨k=4∨k=5∨k=6∨k=7∨k=8:=by omega
   clear hk
   rcases h8 with rfl|rfl|rfl|rfl|rfl|rfl|rfl|rfl|rfl
   ·have hp:(1:Int)≤s:=hle
    clear hle
    cases hw:aI s 0
    ·have HW:=fP (p:=1) rfl hw
     have HN:=zH (dH hsofar.out (fun e=>by rw[hw] at e;cases e))
     clear hw hsofar
     go_wp2_with fail
     refine(cI HW (by omega) (by omega) hs0 (by omega) _).mono ?_
     rintro e w' ⟨rfl,rfl⟩
     go_wp2_with fail
     go_round
     case rel=>exact⟨0+1,by omega,by go_num,HN⟩
     case measure=>simp[Go.RowKit.intOf]
    ·have HW:=fP (p:=1) rfl hw
     obtain⟨hin,hcell⟩:=HT.out.2 1 (by omega) HW.out
     have hcell:w.cell? ⟨b,o+1,none⟩=some (.bool (f 1)):=hcell
     cases hf:f 1
     ·rw[hf] at hcell
      have HN:=zH (dH hsofar.out (fun _=>hf))
      clear hw hf hsofar
      go_wp2_with fail
      refine(cI HW (by omega) (by omega) hs0 (by omega) _).mono ?_
      rintro e w' ⟨rfl,rfl⟩
      go_wp2_with fail
      go_round
      case rel=>exact⟨0+1,by omega,by go_num,HN⟩
      case measure=>simp[Go.RowKit.intOf]
     ·rw[hf] at hcell
      have HN:=zH (mW (k:=0) (by omega) hw hf)
      clear hw hf hsofar
      go_wp2_with fail
      refine(cI HW (by omega) (by omega) hs0 (by omega) _).mono ?_
      rintro e w' ⟨rfl,rfl⟩
      go_wp2_with fail
      go_ret
      exact⟨aM (by rw[HN.out]),rfl⟩
   ·have hp:(2:Int)≤s:=hle
    clear hle
    cases hw:aI s 1
    ·have HW:=fP (p:=2) rfl hw
     have HN:=zH (dH hsofar.out (fun e=>by rw[hw] at e;cases e))
     clear hw hsofar
     go_wp2_with fail
     refine(cI HW (by omega) (by omega) hs0 (by omega) _).mono ?_
     rintro e w' ⟨rfl,rfl⟩
     go_wp2_with fail
     go_round
     case rel=>exact⟨1+1,by omega,by go_num,HN⟩
     case measure=>simp[Go.RowKit.intOf]
    ·have HW:=fP (p:=2) rfl hw
     obtain⟨hin,hcell⟩:=HT.out.2 2 (by omega) HW.out
     have hcell:w.cell? ⟨b,o+2,none⟩=some (.bool (f 2)):=hcell
     cases hf:f 2
     ·rw[hf] at hcell
      have HN:=zH (dH hsofar.out (fun _=>hf))
      clear hw hf hsofar
      go_wp2_with fail
      refine(cI HW (by omega) (by omega) hs0 (by omega) _).mono ?_
      rintro e w' ⟨rfl,rfl⟩
      go_wp2_with fail
      go_round
      case rel=>exact⟨1+1,by omega,by go_num,HN⟩
      case measure=>simp[Go.RowKit.intOf]
     ·rw[hf] at hcell
      have HN:=zH (mW (k:=1) (by omega) hw hf)
      clear hw hf hsofar
      go_wp2_with fail
      refine(cI HW (by omega) (by omega) hs0 (by omega) _).mono ?_
      rintro e w' ⟨rfl,rfl⟩
      go_wp2_with fail
      go_ret
      exact⟨aM (by rw[HN.out]),rfl⟩
   ·have hp:(4:Int)≤s:=hle
    clear hle
    cases hw:aI s 2
    ·have HW:=fP (p:=4) rfl hw
     have HN:=zH (dH hsofar.out (fun e=>by rw[hw] at e;cases e))
     clear hw hsofar
     go_wp2_with fail
     refine(cI HW (by omega) (by omega) hs0 (by omega) _).mono ?_
     rintro e w' ⟨rfl,rfl⟩
     go_wp2_with fail
     go_round
     case rel=>exact⟨2+1,by omega,by go_num,HN⟩
     case measure=>simp[Go.RowKit.intOf]
    ·have HW:=fP (p:=4) rfl hw
     obtain⟨hin,hcell⟩:=HT.out.2 4 (by omega) HW.out
     have hcell:w.cell? ⟨b,o+4,none⟩=some (.bool (f 4)):=hcell
     cases hf:f 4
     ·rw[hf] at hcell
      have HN:=zH (dH hsofar.out (fun _=>hf))
      clear hw hf hsofar
      go_wp2_with fail
      refine(cI HW (by omega) (by omega) hs0 (by omega) _).mono ?_
      rintro e w' ⟨rfl,rfl⟩
      go_wp2_with fail
      go_round
      case rel=>exact⟨2+1,by omega,by go_num,HN⟩
      case measure=>simp[Go.RowKit.intOf]
     ·rw[hf] at hcell
      have HN:=zH (mW (k:=2) (by omega) hw hf)
      clear hw hf hsofar
      go_wp2_with fail
      refine(cI HW (by omega) (by omega) hs0 (by omega) _).mono ?_
      rintro e w' ⟨rfl,rfl⟩
      go_wp2_with fail
      go_ret
      exact⟨aM (by rw[HN.out]),rfl⟩
   ·have hp:(8:Int)≤s:=hle
    clear hle
    cases hw:aI s 3
    ·have HW:=fP (p:=8) rfl hw
     have HN:=zH (dH hsofar.out (fun e=>by rw[hw] at e;cases e))
     clear hw hsofar
     go_wp2_with fail
     refine(cI HW (by omega) (by omega) hs0 (by omega) _).mono ?_
     rintro e w' ⟨rfl,rfl⟩
     go_wp2_with fail
     go_round
     case rel=>exact⟨3+1,by omega,by go_num,HN⟩
     case measure=>simp[Go.RowKit.intOf]
    ·have HW:=fP (p:=8) rfl hw
     obtain⟨hin,hcell⟩:=HT.out.2 8 (by omega) HW.out
     have hcell:w.cell? ⟨b,o+8,none⟩=some (.bool (f 8)):=hcell
     cases hf:f 8
     ·rw[hf] at hcell
      have HN:=zH (dH hsofar.out (fun _=>hf))
      clear hw hf hsofar
      go_wp2_with fail
      refine(cI HW (by omega) (by omega) hs0 (by omega) _).mono ?_
      rintro e w' ⟨rfl,rfl⟩
      go_wp2_with fail
      go_round
      case rel=>exact⟨3+1,by omega,by go_num,HN⟩
      case measure=>simp[Go.RowKit.intOf]
     ·rw[hf] at hcell
      have HN:=zH (mW (k:=3) (by omega) hw hf)
      clear hw hf hsofar
      go_wp2_with fail
      refine(cI HW (by omega) (by omega) hs0 (by omega) _).mono ?_
      rintro e w' ⟨rfl,rfl⟩
      go_wp2_with fail
      go_ret
      exact⟨aM (by rw[HN.out]),rfl⟩
   ·have hp:(16:Int)≤s:=hle
    clear hle
    cases hw:aI s 4
    ·have HW:=fP (p:=16) rfl hw
     have HN:=zH (dH hsofar.out (fun e=>by rw[hw] at e;cases e))
     clear hw hsofar
     go_wp2_with fail
     refine(cI HW (by omega) (by omega) hs0 (by omega) _).mono ?_
     rintro e w' ⟨rfl,rfl⟩
     go_wp2_with fail
     go_round
     case rel=>exact⟨4+1,by omega,by go_num,HN⟩
     case measure=>simp[Go.RowKit.intOf]
    ·have HW:=fP (p:=16) rfl hw
     obtain⟨hin,hcell⟩:=HT.out.2 16 (by omega) HW.out
     have hcell:w.cell? ⟨b,o+16,none⟩=some (.bool (f 16)):=hcell
     cases hf:f 16
     ·rw[hf] at hcell
      have HN:=zH (dH hsofar.out (fun _=>hf))
      clear hw hf hsofar
      go_wp2_with fail
      refine(cI HW (by omega) (by omega) hs0 (by omega) _).mono ?_
      rintro e w' ⟨rfl,rfl⟩
      go_wp2_with fail
      go_round
      case rel=>exact⟨4+1,by omega,by go_num,HN⟩
      case measure=>simp[Go.RowKit.intOf]
     ·rw[hf] at hcell
      have HN:=zH (mW (k:=4) (by omega) hw hf)
      clear hw hf hsofar
      go_wp2_with fail
      refine(cI HW (by omega) (by omega) hs0 (by omega) _).mono ?_
      rintro e w' ⟨rfl,rfl⟩
      go_wp2_with fail
      go_ret
      exact⟨aM (by rw[HN.out]),rfl⟩
   ·have hp:(32:Int)≤s:=hle
    clear hle
    cases hw:aI s 5
    ·have HW:=fP (p:=32) rfl hw
     have HN:=zH (dH hsofar.out (fun e=>by rw[hw] at e;cases e))
     clear hw hsofar
     go_wp2_with fail
     refine(cI HW (by omega) (by omega) hs0 (by omega) _).mono ?_
     rintro e w' ⟨rfl,rfl⟩
     go_wp2_with fail
     go_round
     case rel=>exact⟨5+1,by omega,by go_num,HN⟩
     case measure=>simp[Go.RowKit.intOf]
    ·have HW:=fP (p:=32) rfl hw
     obtain⟨hin,hcell⟩:=HT.out.2 32 (by omega) HW.out
     have hcell:w.cell? ⟨b,o+32,none⟩=some (.bool (f 32)):=hcell
     cases hf:f 32
     ·rw[hf] at hcell
      have HN:=zH (dH hsofar.out (fun _=>hf))
      clear hw hf hsofar
      go_wp2_with fail
      refine(cI HW (by omega) (by omega) hs0 (by omega) _).mono ?_
      rintro e w' ⟨rfl,rfl⟩
      go_wp2_with fail
      go_round
      case rel=>exact⟨5+1,by omega,by go_num,HN⟩
      case measure=>simp[Go.RowKit.intOf]
     ·rw[hf] at hcell
      have HN:=zH (mW (k:=5) (by omega) hw hf)
      clear hw hf hsofar
      go_wp2_with fail
      refine(cI HW (by omega) (by omega) hs0 (by omega) _).mono ?_
      rintro e w' ⟨rfl,rfl⟩
      go_wp2_with fail
      go_ret
      exact⟨aM (by rw[HN.out]),rfl⟩
   ·have hp:(64:Int)≤s:=hle
    clear hle
    cases hw:aI s 6
    ·have HW:=fP (p:=64) rfl hw
     have HN:=zH (dH hsofar.out (fun e=>by rw[hw] at e;cases e))
     clear hw hsofar
     go_wp2_with fail
     refine(cI HW (by omega) (by omega) hs0 (by omega) _).mono ?_
     rintro e w' ⟨rfl,rfl⟩
     go_wp2_with fail
     go_round
     case rel=>exact⟨6+1,by omega,by go_num,HN⟩
     case measure=>simp[Go.RowKit.intOf]
    ·have HW:=fP (p:=64) rfl hw
     obtain⟨hin,hcell⟩:=HT.out.2 64 (by omega) HW.out
     have hcell:w.cell? ⟨b,o+64,none⟩=some (.bool (f 64)):=hcell
     cases hf:f 64
     ·rw[hf] at hcell
      have HN:=zH (dH hsofar.out (fun _=>hf))
      clear hw hf hsofar
      go_wp2_with fail
      refine(cI HW (by omega) (by omega) hs0 (by omega) _).mono ?_
      rintro e w' ⟨rfl,rfl⟩
      go_wp2_with fail
      go_round
      case rel=>exact⟨6+1,by omega,by go_num,HN⟩
      case measure=>simp[Go.RowKit.intOf]
     ·rw[hf] at hcell
      have HN:=zH (mW (k:=6) (by omega) hw hf)
      clear hw hf hsofar
      go_wp2_with fail
      refine(cI HW (by omega) (by omega) hs0 (by omega) _).mono ?_
      rintro e w' ⟨rfl,rfl⟩
      go_wp2_with fail
      go_ret
      exact⟨aM (by rw[HN.out]),rfl⟩
   ·have hp:(128:Int)≤s:=hle
    clear hle
    cases hw:aI s 7
    ·have HW:=fP (p:=128) rfl hw
     have HN:=zH (dH hsofar.out (fun e=>by rw[hw] at e;cases e))
     clear hw hsofar
     go_wp2_with fail
     refine(cI HW (by omega) (by omega) hs0 (by omega) _).mono ?_
     rintro e w' ⟨rfl,rfl⟩
     go_wp2_with fail
     go_round
     case rel=>exact⟨7+1,by omega,by go_num,HN⟩
     case measure=>simp[Go.RowKit.intOf]
    ·have HW:=fP (p:=128) rfl hw
     obtain⟨hin,hcell⟩:=HT.out.2 128 (by omega) HW.out
     have hcell:w.cell? ⟨b,o+128,none⟩=some (.bool (f 128)):=hcell
     cases hf:f 128
     ·rw[hf] at hcell
      have HN:=zH (dH hsofar.out (fun _=>hf))
      clear hw hf hsofar
      go_wp2_with fail
      refine(cI HW (by omega) (by omega) hs0 (by omega) _).mono ?_
      rintro e w' ⟨rfl,rfl⟩
      go_wp2_with fail
      go_round
      case rel=>exact⟨7+1,by omega,by go_num,HN⟩
      case measure=>simp[Go.RowKit.intOf]
     ·rw[hf] at hcell
      have HN:=zH (mW (k:=7) (by omega) hw hf)
      clear hw hf hsofar
      go_wp2_with fail
      refine(cI HW (by omega) (by omega) hs0 (by omega) _).mono ?_
      rintro e w' ⟨rfl,rfl⟩
      go_wp2_with fail
      go_ret
      exact⟨aM (by rw[HN.out]),rfl⟩
   ·have hp:(256:Int)≤s:=hle
    omega
  ·have HN:=zH (P3 hsofar.out (by omega))
   have h8:k=0∨k=1∨k=2∨k=3∨k=4∨k=5∨k=6∨k=7∨k=8:=by omega
   clear hk hsofar
   rcases h8 with rfl|rfl|rfl|rfl|rfl|rfl|rfl|rfl|rfl
   ·have hp:s<(1:Int):=by have:¬(1:Int)≤s:=hle;omega
    clear hle
    go_wp2
    go_ret
    exact⟨aM (by rw[HN.out]),rfl⟩
   ·have hp:s<(2:Int):=by have:¬(2:Int)≤s:=hle;omega
    clear hle
    go_wp2
    go_ret
    exact⟨aM (by rw[HN.out]),rfl⟩
   ·have hp:s<(4:Int):=by have:¬(4:Int)≤s:=hle;omega
    clear hle
    go_wp2
    go_ret
    exact⟨aM (by rw[HN.out]),rfl⟩
   ·have hp:s<(8:Int):=by have:¬(8:Int)≤s:=hle;omega
    clear hle
    go_wp2
    go_ret
    exact⟨aM (by rw[HN.out]),rfl⟩
   ·have hp:s<(16:Int):=by have:¬(16:Int)≤s:=hle;omega
    clear hle
    go_wp2
    go_ret
    exact⟨aM (by rw[HN.out]),rfl⟩
   ·have hp:s<(32:Int):=by have:¬(32:Int)≤s:=hle;omega
    clear hle
    go_wp2
    go_ret
    exact⟨aM (by rw[HN.out]),rfl⟩
   ·have hp:s<(64:Int):=by have:¬(64:Int)≤s:=hle;omega
    clear hle
    go_wp2
    go_ret
    exact⟨aM (by rw[HN.out]),rfl⟩
   ·have hp:s<(128:Int):=by have:¬(128:Int)≤s:=hle;omega
    clear hle
    go_wp2
    go_ret
    exact⟨aM (by rw[HN.out]),rfl⟩
   ·have hp:s<(256:Int):=by have:¬(256:Int)≤s:=hle;omega
    clear hle
    go_wp2
    go_ret
    exact⟨aM (by rw[HN.out]),rfl⟩
def BG:bD→Nat
 | .one=>49
 | .zero=>48
 | .thing i=>97+i
 | .no _=>33
 | .ask _=>63
 | .and_ _ _=>38
 | .or_ _ _=>124
 | .if_ _ _=>62
theorem lI{t:Int}(h1:1≤t)(h3:t≤3):eP t=(aP t:Int)∧aP t≤8:=by
 have:t=1∨t=2∨t=3:=by omega
 rcases this with rfl|rfl|rfl<;>exact⟨rfl,by decide⟩
theorem y3{t:Int}(h1:1≤t)(h3:t≤3):(bV 49 (aP t):Int)=aJ t:=by
 have:t=1∨t=2∨t=3:=by omega
 rcases this with rfl|rfl|rfl<;>rfl
theorem wW{t:Int}(h1:1≤t)(h3:t≤3):(bV 48 (aP t):Int)=0:=by
 have:t=1∨t=2∨t=3:=by omega
 rcases this with rfl|rfl|rfl<;>rfl
theorem nF{t:Int}{i:Nat}(h1:1≤t)(h3:t≤3)(hi:(i:Int)<t):(bV (97+i) (aP t):Int)=fH t i:=by
 have:t=1∨t=2∨t=3:=by omega
 rcases this with rfl|rfl|rfl
 ·obtain rfl:i=0:=by omega
  rfl
 ·have:i=0∨i=1:=by omega
  rcases this with rfl|rfl<;>rfl
 ·have:i=0∨i=1∨i=2:=by omega
  rcases this with rfl|rfl|rfl<;>rfl
theorem z7(c:Nat){t:Int}(h1:1≤t)(h3:t≤3)(hc:nY c):bV c (aP t)<256:=by
 have:t=1∨t=2∨t=3:=by omega
 rcases this with rfl|rfl|rfl<;>rcases hc with rfl|rfl|rfl|rfl|rfl<;>decide
theorem xY{t s:Int}(h1:1≤t)(h3:t≤3)(hs0:0≤s)(hs:s≤aJ t)(f:Int→Bool):((List.range (aP t)).all fun w=> !aI s w|| !f (bZ w))=o4 s f:=by
 unfold o4
 rw[Bool.eq_iff_iff,List.all_eq_true,List.all_eq_true]
 have hn:=(lI h1 h3).2
 constructor
 ·intro h w hw
  rcases Nat.lt_or_ge w (aP t) with h2|h2
  ·exact h w (List.mem_range.2 h2)
  ·cases h4:aI s w
   ·rfl
   ·have:=fX h1 h3 hs0 hs h4;omega
 ·intro h w hw
  exact h w (List.mem_range.2 (by have:=List.mem_range.1 hw;omega))
theorem PH{t s:Int}(h1:1≤t)(h3:t≤3)(hs0:0≤s)(hs:s≤aJ t)(x:bD):aN t (.no x) s=o4 s (aN t x):=xY h1 h3 hs0 hs _
theorem N5{t s:Int}(h1:1≤t)(h3:t≤3)(hs0:0≤s)(hs:s≤aJ t)(x:bD):aN t (.ask x) s=(aN t x s||o4 s (aN t x)):=by
 rw[←xY h1 h3 hs0 hs];rfl
theorem RK(t:Int)(x y:bD)(s:Int):aN t (.if_ x y) s=FA s (aN t x) (aN t y):=rfl
def bY(w:World)(v:Value)(s:Int)(f:Int→Bool):Prop:=∃b o n c,v= .slice (some ⟨b,o,none⟩) n c∧oT w b o n s f
def lF(w:World)(t:Int)(x:bD)(s:Int)(v1 v2:Value):Prop:=
 match x with
 | .no a=>bY w v1 s (aN t a)
 | .ask a=>bY w v1 s (aN t a)
 | .and_ a b=>bY w v1 s (aN t a)∧bY w v2 s (aN t b)
 | .or_ a b=>bY w v1 s (aN t a)∧bY w v2 s (aN t b)
 | .if_ a b=>bY w v1 s (aN t a)∧bY w v2 s (aN t b)
 |_=>True
theorem bY.below{w w' :World}{v:Value}{s:Int}{f:Int→Bool}(h:bY w v s f)(hb:Below w.heap.size w w'):bY w' v s f:=by
 obtain⟨b,o,n,c,rfl,h⟩:=h;exact⟨b,o,n,c,rfl,h.below hb⟩
theorem bY.sub{w:World}{v:Value}{s s2:Int}{f:Int→Bool}(h:bY w v s f)(hs0:0≤s2)(hs:aB s2 s=true):bY w v s2 f:=by
 obtain⟨b,o,n,c,rfl,h⟩:=h;exact⟨b,o,n,c,rfl,h.sub hs0 hs⟩
theorem lF.below{w w' :World}{t:Int}{x:bD}{s:Int}{v1 v2:Value}(h:lF w t x s v1 v2)(hb:Below w.heap.size w w'):lF w' t x s v1 v2:=by
 cases x with
 |one=>trivial
 |zero=>trivial
 |thing i=>trivial
 |no a=>exact bY.below h hb
 |ask a=>exact bY.below h hb
 |and_ a b=>exact⟨bY.below h.1 hb,bY.below h.2 hb⟩
 |or_ a b=>exact⟨bY.below h.1 hb,bY.below h.2 hb⟩
 |if_ a b=>exact⟨bY.below h.1 hb,bY.below h.2 hb⟩
theorem lF.sub{w:World}{t:Int}{x:bD}{s s2:Int}{v1 v2:Value}(h:lF w t x s v1 v2)(hs0:0≤s2)(hs:aB s2 s=true):lF w t x s2 v1 v2:=by
 cases x with
 |one=>trivial
 |zero=>trivial
 |thing i=>trivial
 |no a=>exact bY.sub h hs0 hs
 |ask a=>exact bY.sub h hs0 hs
 |and_ a b=>exact⟨bY.sub h.1 hs0 hs,bY.sub h.2 hs0 hs⟩
 |or_ a b=>exact⟨bY.sub h.1 hs0 hs,bY.sub h.2 hs0 hs⟩
 |if_ a b=>exact⟨bY.sub h.1 hs0 hs,bY.sub h.2 hs0 hs⟩
theorem LK{s:Int}{f:Int→Bool}{v:Bool}(h:Hid (o4 s f=v)){b o n c:Nat}{w:World}(hs0:0≤s)(hs:s<256)(hT:oT w b o n s f):
  Calls Tryz.prog 189 #[.int .i64 s,.slice (some ⟨b,o,none⟩) n c] w fun e w' =>e= .returned (.bool v)∧w=w' :=
 (J2 s b o n c f w hs0 hs hT).mono fun _ _ ⟨he,hw⟩=>⟨he.trans (aM h.out),hw⟩
theorem rG(t s:Int)(c:Nat)(hc:nY c)(v1 v2:Value)(w:World)(h1:1≤t)(h3:t≤3)(hs0:0≤s)(hs:s≤aJ t):
  Calls Tryz.prog 172 #[.int .i64 t,.int .i64 s,.int .u8 c,v1,v2] w fun e w' =>e= .returned (.bool (aB s (bV c (aP t))))∧w=w' :=by
 obtain⟨hn,hn8⟩:=lI h1 h3
 have hr:=z7 c h1 h3 hc
 have hal:=(bH t).2
 have HN:=zH hn
 have HC:=zH hc
 obtain⟨g,HG⟩:∃g:Nat,Hid (bV c (aP t)=g):=⟨_,rfl⟩
 have hg:g<256:=by rw[←HG.out];exact hr
 rw[HG.out]
 clear hn hr
 rcases hc with rfl|rfl|rfl|rfl|rfl
 all_goals
  go_enter Tryz.func172,Tryz.ntmps172
  go_wp2_with (first|(go_at_call 160;refine(qG _ _ HN.out hn8 _ _ HC.out).mono ?_;rintro e w' ⟨rfl,rfl⟩;rw[HG.out])|(go_at_call 119;refine(xQ _ _ hs0 (by omega) (by omega) (by omega) _).mono ?_;rintro e w' ⟨rfl,rfl⟩))
  go_ret
  exact⟨rfl,rfl⟩
theorem TY(t s:Int)(x:bD)(v1 v2:Value)(w:World)(hx:eI t x=true)(h1:1≤t)(h3:t≤3)(hs0:0≤s)(hs:s≤aJ t)(hk:lF w t x s v1 v2):
  Calls Tryz.prog 172 #[.int .i64 t,.int .i64 s,.int .u8 (BG x),v1,v2] w fun e w' =>e= .returned (.bool (aN t x s))∧Below w.heap.size w w' :=by
 have hal:=(bH t).2
 have hsr:aB s s=true:=dG s hs0
 cases x with
 |one=>
  refine(rG t s 49 (.inr (.inl rfl)) v1 v2 w h1 h3 hs0 hs).mono ?_
  rintro e w' ⟨rfl,rfl⟩
  exact⟨aM (by rw[y3 h1 h3,(iH h1 h3 hs0).2 hs];rfl),Below.refl _ _⟩
 |zero=>
  refine(rG t s 48 (.inl rfl) v1 v2 w h1 h3 hs0 hs).mono ?_
  rintro e w' ⟨rfl,rfl⟩
  refine⟨aM ?_,Below.refl _ _⟩
  rw[wW h1 h3]
  show _=decide (s=0)
  rw[Bool.eq_iff_iff,decide_eq_true_eq,jI hs0]
 |thing i=>
  have hi:(i:Int)<t:=of_decide_eq_true hx
  refine(rG t s (97+i) (by unfold nY;omega) v1 v2 w h1 h3 hs0 hs).mono ?_
  rintro e w' ⟨rfl,rfl⟩
  exact⟨aM (by rw[nF h1 h3 hi];rfl),Below.refl _ _⟩
 |no a=>
  obtain⟨b,o,n,c,rfl,hT⟩:=hk
  have HT:=zH hT
  have HF:=zH (PH h1 h3 hs0 hs a)
  clear hT hsr hx
  show Calls Tryz.prog 172 #[.int .i64 t,.int .i64 s,.int .u8 33,_,v2] w _
  go_enter Tryz.func172,Tryz.ntmps172
  go_wp2_with (go_at_call 189;refine(J2 s _ _ _ _ _ _ hs0 (by omega) HT.out).mono ?_;rintro e w' ⟨rfl,rfl⟩)
  go_ret
  exact⟨aM HF.out.symm,Below.refl _ _⟩
 |ask a=>
  obtain⟨b,o,n,c,rfl,hT⟩:=hk
  have HT:=zH hT
  obtain⟨hi,hcell⟩:=hT.2 s hs0 hsr
  have HF:=zH (N5 h1 h3 hs0 hs a)
  obtain⟨fs,HFS⟩:∃x,Hid (aN t a s=x):=⟨_,rfl⟩
  obtain⟨ds,HDS⟩:∃x,Hid (o4 s (aN t a)=x):=⟨_,rfl⟩
  rw[HFS.out] at hcell
  clear hT hsr hx
  show Calls Tryz.prog 172 #[.int .i64 t,.int .i64 s,.int .u8 63,_,v2] w _
  cases fs
  all_goals
   go_enter Tryz.func172,Tryz.ntmps172
   go_wp2_with (go_at_call 189;refine(LK HDS hs0 (by omega) HT.out).mono ?_;rintro e w' ⟨rfl,rfl⟩)
   go_ret
   exact⟨aM (by rw[HF.out,HFS.out,HDS.out];rfl),Below.refl _ _⟩
 |and_ a c=>
  obtain⟨⟨b,o,n,c1,rfl,hT⟩,b2,o2,n2,c2,rfl,hT2⟩:=hk
  obtain⟨hi,hcell⟩:=hT.2 s hs0 hsr
  obtain⟨hi2,hcell2⟩:=hT2.2 s hs0 hsr
  have HF:Hid (aN t (.and_ a c) s=(aN t a s&&aN t c s)):=rfl
  obtain⟨fs,HFS⟩:∃x,Hid (aN t a s=x):=⟨_,rfl⟩
  obtain⟨ds,HDS⟩:∃x,Hid (aN t c s=x):=⟨_,rfl⟩
  rw[HFS.out] at hcell
  rw[HDS.out] at hcell2
  clear hT hT2 hsr hx
  show Calls Tryz.prog 172 #[.int .i64 t,.int .i64 s,.int .u8 38,_,_] w _
  cases fs
  all_goals
   go_enter Tryz.func172,Tryz.ntmps172
   go_wp2_with fail
   go_ret
   exact⟨aM (by rw[HF.out,HFS.out,HDS.out];rfl),Below.refl _ _⟩
 |or_ a c=>
  obtain⟨⟨b,o,n,c1,rfl,hT⟩,b2,o2,n2,c2,rfl,hT2⟩:=hk
  obtain⟨hi,hcell⟩:=hT.2 s hs0 hsr
  obtain⟨hi2,hcell2⟩:=hT2.2 s hs0 hsr
  have HF:Hid (aN t (.or_ a c) s=(aN t a s||aN t c s)):=rfl
  obtain⟨fs,HFS⟩:∃x,Hid (aN t a s=x):=⟨_,rfl⟩
  obtain⟨ds,HDS⟩:∃x,Hid (aN t c s=x):=⟨_,rfl⟩
  rw[HFS.out] at hcell
  rw[HDS.out] at hcell2
  clear hT hT2 hsr hx
  show Calls Tryz.prog 172 #[.int .i64 t,.int .i64 s,.int .u8 124,_,_] w _
  cases fs
  all_goals
   go_enter Tryz.func172,Tryz.ntmps172
   go_wp2_with fail
   go_ret
   exact⟨aM (by rw[HF.out,HFS.out,HDS.out];rfl),Below.refl _ _⟩
 |if_ a c=>
  obtain⟨⟨b,o,n,c1,rfl,hT⟩,b2,o2,n2,c2,rfl,hT2⟩:=hk
  have HT:=zH hT
  have HT2:=zH hT2
  have HF:=zH (RK t a c s)
  clear hT hT2 hsr hx
  show Calls Tryz.prog 172 #[.int .i64 t,.int .i64 s,.int .u8 62,_,_] w _
  go_enter Tryz.func172,Tryz.ntmps172
  go_wp2_with fail
  refine(EY s _ _ _ _ _ _ _ _ _ _ _ hs0 (by omega) HT.out HT2.out).mono ?_
  rintro e w' ⟨rfl,hb⟩
  have HB:=zH hb
  clear hb
  go_wp2_with fail
  go_ret
  exact⟨aM HF.out.symm,HB.out⟩
theorem KZ{l n:Nat}{P:Program}{o:Oper}{a:Act}{w:World}{K:Act→World→Prop}{Q:Exit→Act→World→Prop}(hd:∀c,o.op≠.defer c)(h:o.wp P a w K Q):o.wpIn (Fence.wide.inRound l) n P a w K Q:=by
 refine⟨fun _ _=>trivial,?_⟩
 rw[Oper.semAt_eq _ _ _ hd]
 unfold Oper.wp at h
 generalize (execOp a.eval o).run P w=r at h⊢
 cases r with
 |ok x w' =>
  cases x with
  |value v=>exact h
  |skip=>exact h
  |defer d=>exact h
  |enter f args=>
   refine⟨fun e=>(by cases e),?_⟩
   refine(callsIn_wide (n:=n-1)).2 ?_
   refine Calls.mono h fun e w'' he=> ?_
   cases e<;>exact he
  |row r args=>
   refine⟨fun e=>(by cases e),fun c cs _=> ?_⟩
   obtain⟨v,w'',hr,hs⟩:=h c cs
   exact⟨v,w'',hr,stepsIn_wide.2 hs⟩
  |_=>exact h.elim
 |halt x w' =>cases x<;>exact h
def sX(o:Oper):Bool:=match o.op with| .defer _=>false|_=>true
theorem L1{o:Oper}(h:sX o=true):∀c,o.op≠.defer c:=fun c e=>by unfold sX at h;rw[e] at h;cases h
theorem pW{l n:Nat}{P:Program}{md:Region.Mode}{ops:Array Oper}{Q:Exit→Act→World→Prop}(hd:ops.all sX=true)(hQ:¬LetsOut Q):
  ∀(fuel:Nat) (listed:Array Bool) (a:Act) (w:World),wpAny P md ops Q fuel listed a w→wpAnyIn (Fence.wide.inRound l) n P md ops Q fuel listed a w
 |0,_,_,_,h=>h
 |fuel+1,listed,a,w,h=>by
  refine⟨h.1,fun i hi=> ?_⟩
  have h2:=h.2 i hi
  unfold wpOp at h2
  unfold wpOpIn
  cases ho:ops[i]? with
  |none=>rw[ho] at h2;exact pW hd hQ fuel _ _ _ h2
  |some o=>
   rw[ho] at h2
   simp only at h2⊢
   have hdo:sX o=true:=by
    obtain⟨hlt,e⟩:=Array.getElem?_eq_some_iff.1 ho
    rw[Array.all_eq_true] at hd
    have:=hd i hlt
    rwa [e] at this
   split
   ·rename_i hw
    rw[if_pos hw] at h2
    rcases h2 with h2|h2
    ·exact KZ (L1 hdo) (Oper.wp_mono (fun a w=>pW hd hQ fuel _ a w) h2)
    ·exact absurd h2.2 hQ
   ·rename_i hw
    rw[if_neg hw] at h2
    exact⟨fun _ _=>trivial,pW hd hQ fuel _ _ _ h2⟩
theorem LU{l n:Nat}{P:Program}{ops:Array Oper}{Q:Exit→Act→World→Prop}{S:World→Prop}{id:Nat}{a:Act}{w:World}(hm:P.follows .mixedOrders=true)(hd:ops.all sX=true)(hQ:¬LetsOut Q)(hS:S w.drew)
  (h:S w.drew→wpAnyH P .any ops Q S ops.size (Array.replicate ops.size false) a w.drew):(Code.region id ops true).wpIn (Fence.wide.inRound l) n P Q a w:=
 wpIn_region_any hm (pW hd hQ _ _ _ _ (wpAny_of_held _ _ _ _ (h hS)))
end Go.Proofs.YtfhjcacfchkdpaaGreatDoor

/-
  What the proofs of this seat's statements share (LdcI).
-/
import Derived.RangeFuncBox
import Derived.Shelf.Abstract
import Derived.Test.YtfhjcacfchkdpaaGreatDoorU13
set_option maxRecDepth 100000
set_option maxHeartbeats 32000000
namespace Go.Proofs.YtfhjcacfchkdpaaGreatDoor
open Go.RowKit
def eF(o:Option Int)(w:World)(e:Ending)(w' :World):Prop:=
 (∃u b,e= .returned (.tuple #[.int .i64 u,.bool b])∧(b=true→o=some u)∧(b=false→o=none))∧w' =w
def mQ(t:Int)(x:Ld)(v:Value)(w:World):Prop:=
 ∃g cap,v= .func (.func g) #[] cap∧Enters Tryz.prog g∧∀s,0≤s→s≤aJ t→Calls Tryz.prog g (#[.int .i64 s]++cap) w (eF (aT t x s) w)
theorem sU{o:Option Int}(ho:o=none){g:Nat}{args:Array Value}{w:World}(h:Calls Tryz.prog g args w (eF o w)):Calls Tryz.prog g args w fun e w' =>(∃u,e= .returned (.tuple #[.int .i64 u,.bool false]))∧w' =w:=by
 refine h.mono ?_
 rintro e w' ⟨⟨u,b,rfl,h1,h2⟩,rfl⟩
 cases b
 ·exact⟨⟨u,rfl⟩,rfl⟩
 ·rw[ho] at h1;cases h1 rfl
theorem qW{o:Option Int}{u:Int}(ho:o=some u){g:Nat}{args:Array Value}{w:World}(h:Calls Tryz.prog g args w (eF o w)):Calls Tryz.prog g args w fun e w' =>e= .returned (.tuple #[.int .i64 u,.bool true])∧w' =w:=by
 refine h.mono ?_
 rintro e w' ⟨⟨v,b,rfl,h1,h2⟩,rfl⟩
 cases b
 ·rw[ho] at h2;cases h2 rfl
 ·rw[ho] at h1;cases h1 rfl;exact⟨rfl,rfl⟩
theorem eF.none{o:Option Int}(ho:o= .none){u:Int}{w:World}:eF o w (.returned (.tuple #[.int .i64 u,.bool false])) w:=⟨⟨u,false,rfl,fun h=>(by cases h),fun _=>ho⟩,rfl⟩
theorem eF.some{o:Option Int}{u:Int}(ho:o= .some u){w:World}:eF o w (.returned (.tuple #[.int .i64 u,.bool true])) w:=⟨⟨u,true,rfl,fun _=>ho,fun h=>by cases h⟩,rfl⟩
theorem SK(t:Int)(x:Ld)(b:Nat)(v:Value)(w:World)(hb:Boxed w b 170 v)(hx:mQ t x v w)(s:Int)(h0:0≤s)(hall:s≤aJ t):
  Calls Tryz.prog 197 #[.int .i64 s,.pointer (some ⟨b,0,none⟩)] w (eF (aT t (.no x) s) w):=by
 have h8:s<256:=by have:=(bH t).2;omega
 obtain⟨g,cap,rfl,hg,hc⟩:=hx
 have hcell:=hb.cell
 have hg:∀(args:Array Value) (w:World),(callFunc g args).run Tryz.prog w= .ok (.enter g args) w:=hg
 have HC:=zH (hc s h0 hall)
 clear hc hb
 rcases hxs:aT t x s with _|u
 ·have H:Hid (aT t (.no x) s=none):=by
   show(aT t x s).map _=_
   rw[hxs];rfl
  replace HC:=zH (sU hxs HC.out)
  clear hxs
  go_enter Tryz.func197,Tryz.ntmps197
  go_wp2_with (go_at_fn g;refine HC.out.mono ?_;rintro e w' ⟨⟨u,rfl⟩,rfl⟩)
  go_ret2
  exact eF.none H.out
 ·have H:Hid (aT t (.no x) s=some (bits .andNot .i64 s u)):=by
   show(aT t x s).map _=_
   rw[(zE h0 h8 hxs).1,hxs];rfl
  replace HC:=zH (qW hxs HC.out)
  clear hxs
  go_enter Tryz.func197,Tryz.ntmps197
  go_wp2_with (go_at_fn g;refine HC.out.mono ?_;rintro e w' ⟨rfl,rfl⟩)
  go_ret2
  exact eF.some H.out
theorem PY(t:Int)(x:Ld)(so:Int)(b:Nat)(w:World)(hb:Boxed w b 3 (.int .i64 so))(h:∀s,0≤s→s≤aJ t→aT t x s=some (bits .and .i64 s so))(s:Int)(h0:0≤s)(hall:s≤aJ t):
  Calls Tryz.prog 202 #[.int .i64 s,.pointer (some ⟨b,0,none⟩)] w (eF (aT t x s) w):=by
 have hcell:=hb.cell
 have HR:=zH (h s h0 hall)
 clear hb h
 go_enter Tryz.func202,Tryz.ntmps202
 go_wp2_with fail
 go_ret2
 exact eF.some HR.out
theorem TG(t:Int)(x y:Ld)(b b2:Nat)(v v2:Value)(w:World)(hb:Boxed w b 170 v)(hb2:Boxed w b2 170 v2)(hx:mQ t x v w)(hy:mQ t y v2 w)(s:Int)(h0:0≤s)(hall:s≤aJ t):
  Calls Tryz.prog 198 #[.int .i64 s,.pointer (some ⟨b,0,none⟩),.pointer (some ⟨b2,0,none⟩)] w (eF (aT t (.pre x y) s) w):=by
 have h8:s<256:=by have:=(bH t).2;omega
 obtain⟨g,cap,rfl,hg,hc⟩:=hx
 obtain⟨g2,cap2,rfl,hg2,hc2⟩:=hy
 have hcell:=hb.cell
 have hcell2:=hb2.cell
 have hg:∀(args:Array Value) (w:World),(callFunc g args).run Tryz.prog w= .ok (.enter g args) w:=hg
 have hg2:∀(args:Array Value) (w:World),(callFunc g2 args).run Tryz.prog w= .ok (.enter g2 args) w:=hg2
 have HC:=zH (hc s h0 hall)
 clear hc hb hb2
 rcases hxs:aT t x s with _|u
 ·have H:Hid (aT t (.pre x y) s=none):=by
   show(aT t x s).bind _=_
   rw[hxs];rfl
  replace HC:=zH (sU hxs HC.out)
  clear hxs hc2
  go_enter Tryz.func198,Tryz.ntmps198
  go_wp2_with (go_at_fn g;refine HC.out.mono ?_;rintro e w' ⟨⟨u,rfl⟩,rfl⟩)
  go_ret2
  exact eF.none H.out
 ·replace HC:=zH (qW hxs HC.out)
  by_cases hne:u=s
  ·subst hne
   have H:Hid (aT t (.pre x y) u=aT t y u):=by
    show(aT t x u).bind _=_
    rw[hxs,Option.bind_some,if_pos rfl]
   have HC2:=zH (hc2 u h0 hall)
   have hbb:(u != u)=false:=by simp
   rw[H.out]
   clear hxs hc2
   go_enter Tryz.func198,Tryz.ntmps198
   go_wp2_with (first
    |(go_at_fn g;refine HC.out.mono ?_;clear HC;rintro e w' ⟨rfl,rfl⟩)
    |(go_at_fn g2;refine HC2.out.mono ?_;clear HC2;rintro e w' ⟨⟨u2,c2,rfl,h3,h4⟩,rfl⟩))
   go_ret2
   exact⟨⟨_,_,rfl,h3,h4⟩,rfl⟩
  ·have H:Hid (aT t (.pre x y) s=none):=by
    show(aT t x s).bind _=_
    rw[hxs,Option.bind_some,if_neg hne]
   have hbb:(u != s)=true:=by simp[hne]
   clear hxs hc2 hne
   go_enter Tryz.func198,Tryz.ntmps198
   go_wp2_with (go_at_fn g;refine HC.out.mono ?_;rintro e w' ⟨rfl,rfl⟩)
   go_ret2
   exact eF.none H.out
theorem SV(t:Int)(x y:Ld)(b b2:Nat)(v v2:Value)(w:World)(hb:Boxed w b 170 v)(hb2:Boxed w b2 170 v2)(hx:mQ t x v w)(hy:mQ t y v2 w)(s:Int)(h0:0≤s)(hall:s≤aJ t):
  Calls Tryz.prog 205 #[.int .i64 s,.pointer (some ⟨b,0,none⟩),.pointer (some ⟨b2,0,none⟩)] w (eF (aT t (.and_ x y) s) w):=by
 have h8:s<256:=by have:=(bH t).2;omega
 obtain⟨g,cap,rfl,hg,hc⟩:=hx
 obtain⟨g2,cap2,rfl,hg2,hc2⟩:=hy
 have hcell:=hb.cell
 have hcell2:=hb2.cell
 have hg:∀(args:Array Value) (w:World),(callFunc g args).run Tryz.prog w= .ok (.enter g args) w:=hg
 have hg2:∀(args:Array Value) (w:World),(callFunc g2 args).run Tryz.prog w= .ok (.enter g2 args) w:=hg2
 have HC:=zH (hc s h0 hall)
 clear hc hb hb2
 rcases hxs:aT t x s with _|u
 ·have H:Hid (aT t (.and_ x y) s=none):=by
   show(aT t x s).bind _=_
   rw[hxs];rfl
  replace HC:=zH (sU hxs HC.out)
  clear hxs hc2
  go_enter Tryz.func205,Tryz.ntmps205
  go_wp2_with (go_at_fn g;refine HC.out.mono ?_;rintro e w' ⟨⟨u,rfl⟩,rfl⟩)
  go_ret2
  exact eF.none H.out
 ·replace HC:=zH (qW hxs HC.out)
  have H:Hid (aT t (.and_ x y) s=aT t y u):=by
   show(aT t x s).bind _=_
   rw[hxs];rfl
  have hr:=q6 h0 h8 hxs
  have HC2:=zH (hc2 u hr.1 (by omega))
  rw[H.out]
  clear hxs hc2 hr
  go_enter Tryz.func205,Tryz.ntmps205
  go_wp2_with (first
   |(go_at_fn g;refine HC.out.mono ?_;clear HC;rintro e w' ⟨rfl,rfl⟩)
   |(go_at_fn g2;refine HC2.out.mono ?_;clear HC2;rintro e w' ⟨⟨u2,c2,rfl,h3,h4⟩,rfl⟩))
  go_ret2
  exact⟨⟨_,_,rfl,h3,h4⟩,rfl⟩
theorem UZ(t:Int)(x y:Ld)(b b2:Nat)(v v2:Value)(w:World)(hb:Boxed w b 170 v)(hb2:Boxed w b2 170 v2)(hx:mQ t x v w)(hy:mQ t y v2 w)(s:Int)(h0:0≤s)(hall:s≤aJ t):
  Calls Tryz.prog 206 #[.int .i64 s,.pointer (some ⟨b,0,none⟩),.pointer (some ⟨b2,0,none⟩)] w (eF (aT t (.or_ x y) s) w):=by
 have h8:s<256:=by have:=(bH t).2;omega
 obtain⟨g,cap,rfl,hg,hc⟩:=hx
 obtain⟨g2,cap2,rfl,hg2,hc2⟩:=hy
 have hcell:=hb.cell
 have hcell2:=hb2.cell
 have hg:∀(args:Array Value) (w:World),(callFunc g args).run Tryz.prog w= .ok (.enter g args) w:=hg
 have hg2:∀(args:Array Value) (w:World),(callFunc g2 args).run Tryz.prog w= .ok (.enter g2 args) w:=hg2
 have HC:=zH (hc s h0 hall)
 clear hc hb hb2
 rcases hxs:aT t x s with _|u
 ·have H:Hid (aT t (.or_ x y) s=none):=by
   show(aT t x s).bind _=_
   rw[hxs];rfl
  replace HC:=zH (sU hxs HC.out)
  clear hxs hc2
  go_enter Tryz.func206,Tryz.ntmps206
  go_wp2_with (go_at_fn g;refine HC.out.mono ?_;rintro e w' ⟨⟨u,rfl⟩,rfl⟩)
  go_ret2
  exact eF.none H.out
 ·replace HC:=zH (qW hxs HC.out)
  have hl:=zE h0 h8 hxs
  have HC2:Hid (Calls Tryz.prog g2 (#[.int .i64 (bits .andNot .i64 s u)]++cap2) w (eF (aT t y (s-u)) w)):=by
   rw[hl.1]
   exact hc2 (s-u) (by omega) (by omega)
  have HY:Hid (∀v,aT t y (s-u)=some v→aT t (.or_ x y) s=some (bits .or .i64 u v)):=fun v hv=>by
   rw[V3 h0 h8 hxs hv]
   show(aT t x s).bind _=_
   rw[hxs]
   show(aT t y (s-u)).map _=_
   rw[hv];rfl
  have HN:Hid (aT t y (s-u)=none→aT t (.or_ x y) s=none):=fun hv=>by
   show(aT t x s).bind _=_
   rw[hxs]
   show(aT t y (s-u)).map _=_
   rw[hv];rfl
  clear hxs hc2 hl
  go_enter Tryz.func206,Tryz.ntmps206
  go_wp2_with (first
   |(go_at_fn g;refine HC.out.mono ?_;clear HC;rintro e w' ⟨rfl,rfl⟩)
   |(go_at_fn g2;refine HC2.out.mono ?_;clear HC2;rintro e w' ⟨⟨u2,c2,rfl,h3,h4⟩,rfl⟩))
  go_ret2
  exact⟨⟨_,_,rfl,fun h=>HY.out u2 (h3 h),fun h=>HN.out (h4 h)⟩,rfl⟩
theorem VT(t:Int)(x y:Ld)(b b2:Nat)(v v2:Value)(w:World)(hb:Boxed w b 170 v)(hb2:Boxed w b2 170 v2)(hx:mQ t x v w)(hy:mQ t y v2 w)(s:Int)(h0:0≤s)(hall:s≤aJ t):
  Calls Tryz.prog 207 #[.int .i64 s,.pointer (some ⟨b,0,none⟩),.pointer (some ⟨b2,0,none⟩)] w (eF (aT t (.if_ x y) s) w):=by
 have h8:s<256:=by have:=(bH t).2;omega
 obtain⟨g,cap,rfl,hg,hc⟩:=hx
 obtain⟨g2,cap2,rfl,hg2,hc2⟩:=hy
 have hcell:=hb.cell
 have hcell2:=hb2.cell
 have hg:∀(args:Array Value) (w:World),(callFunc g args).run Tryz.prog w= .ok (.enter g args) w:=hg
 have hg2:∀(args:Array Value) (w:World),(callFunc g2 args).run Tryz.prog w= .ok (.enter g2 args) w:=hg2
 have HC:=zH (hc s h0 hall)
 clear hc hb hb2
 rcases hxs:aT t x s with _|u
 ·have H:Hid (aT t (.if_ x y) s=none):=by
   show(aT t x s).bind _=_
   rw[hxs];rfl
  replace HC:=zH (sU hxs HC.out)
  clear hxs hc2
  go_enter Tryz.func207,Tryz.ntmps207
  go_wp2_with (go_at_fn g;refine HC.out.mono ?_;rintro e w' ⟨⟨u,rfl⟩,rfl⟩)
  go_ret2
  exact eF.none H.out
 ·replace HC:=zH (qW hxs HC.out)
  have hl:=zE h0 h8 hxs
  have HC2:=zH (hc2 u hl.2.1 (by omega))
  have HY:Hid (∀v,aT t y u=some v→aT t (.if_ x y) s=some (bits .or .i64 (bits .andNot .i64 s u) v)):=fun v hv=>by
   rw[hl.1,VZ h0 h8 hxs hv]
   show(aT t x s).bind _=_
   rw[hxs]
   show(aT t y u).map _=_
   rw[hv];rfl
  have HN:Hid (aT t y u=none→aT t (.if_ x y) s=none):=fun hv=>by
   show(aT t x s).bind _=_
   rw[hxs]
   show(aT t y u).map _=_
   rw[hv];rfl
  clear hxs hc2 hl
  go_enter Tryz.func207,Tryz.ntmps207
  go_wp2_with (first
   |(go_at_fn g;refine HC.out.mono ?_;clear HC;rintro e w' ⟨rfl,rfl⟩)
   |(go_at_fn g2;refine HC2.out.mono ?_;clear HC2;rintro e w' ⟨⟨u2,c2,rfl,h3,h4⟩,rfl⟩))
  go_ret2
  exact⟨⟨_,_,rfl,fun h=>HY.out u2 (h3 h),fun h=>HN.out (h4 h)⟩,rfl⟩
end Go.Proofs.YtfhjcacfchkdpaaGreatDoor

/-
  What the proofs of this seat's statements share (TlkI).
-/
import Derived.Test.YtmdogidflaplkaaGreatU29

namespace Go.Proofs.YtmdogidflaplkaaGreat
open Go.RowKit

theorem results_going {fn : Func} {r : Tmp} (h : fn.results = #[.cell r 69]) {tmps : Array Value} {w : World} {b : Nat} {x y z p : Value} (ht : tmps.getD r undef = .pointer (some ⟨b, 0, none⟩))
   (hb : Hid (Box w b 69 [x, y, z, p])) : (results fn tmps).run Tryz.prog w = .ok (.agg #[x, y, z, p]) w := by
  have ht : tmps[r]?.getD undef = .pointer (some ⟨b, 0, none⟩) := by simpa using ht
  have hc0 := hb.out.cell (i := 0) (v := x) rfl
  have hc1 := hb.out.cell (i := 1) (v := y) rfl
  have hc2 := hb.out.cell (i := 2) (v := z) rfl
  have hc3 := hb.out.cell (i := 3) (v := p) rfl
  simp [results, h, ht, go_sem, hc0, hc1, hc2, hc3]
theorem results_goingB {fn : Func} {r q : Tmp} (h : fn.results = #[.cell r 69, .tmp q]) {tmps : Array Value} {w : World} {b : Nat} {x y z p v : Value} (ht : tmps.getD r undef = .pointer (some ⟨b, 0, none⟩)) (hv : tmps.getD q undef = v)
   (hb : Hid (Box w b 69 [x, y, z, p])) : (results fn tmps).run Tryz.prog w = .ok (.tuple #[.agg #[x, y, z, p], v]) w := by
  have ht : tmps[r]?.getD undef = .pointer (some ⟨b, 0, none⟩) := by simpa using ht
  have hv : tmps[q]?.getD undef = v := by simpa using hv
  have hc0 := hb.out.cell (i := 0) (v := x) rfl
  have hc1 := hb.out.cell (i := 1) (v := y) rfl
  have hc2 := hb.out.cell (i := 2) (v := z) rfl
  have hc3 := hb.out.cell (i := 3) (v := p) rfl
  simp [results, h, ht, hv, go_sem, hc0, hc1, hc2, hc3]
/-- What a deed on a talk that goes on hands back. -/
def GoPost (T : TalkV) (b : Bool) (R : World → Prop) (w : World) (e : Ending) (w' : World) : Prop := ∃ A n c B m d, e = .returned (.tuple #[.agg #[.int .i64 T.now.known, .slice A n c, .int .i64 T.things, .slice B m d], .bool b]) ∧ (∀ w2, R w2 → Keeps w.heap.size w' w2 → TkAt w2 T A n c B m d) ∧ Below w.heap.size w w'
theorem two_boxesT (w : World) (T1 T2 : TypeId) (xs ys : List Value) :
    Hid (Box ((w.alloc (.cells xs.toArray T1)).alloc (.cells ys.toArray T2)) w.heap.size T1 xs) ∧ Hid (Box ((w.alloc (.cells xs.toArray T1)).alloc (.cells ys.toArray T2)) (w.heap.size + 1) T2 ys) ∧ Hid (Below w.heap.size w ((w.alloc (.cells xs.toArray T1)).alloc (.cells ys.toArray T2))) := by
  have h := Box.new (w.alloc (.cells xs.toArray T1)) T2 ys
  rw [World.size_alloc] at h
  exact ⟨(Box.new w T1 xs).alloc _, h, ((Below.refl _ _).alloc (Nat.le_refl _) _).alloc (by rw [World.size_alloc]; omega) _⟩
theorem go_start (w : World) (T1 T2 : TypeId) (a b c d e f g h : Value) :
    Hid (Box ((w.alloc (.cells #[a, b, c, d] T1)).alloc (.cells #[e, f, g, h] T2)) w.heap.size T1 [a, b, c, d]) ∧ Hid (Box ((w.alloc (.cells #[a, b, c, d] T1)).alloc (.cells #[e, f, g, h] T2)) (w.heap.size + 1) T2 [e, f, g, h]) ∧ Hid (Below w.heap.size w ((w.alloc (.cells #[a, b, c, d] T1)).alloc (.cells #[e, f, g, h] T2))) :=
  two_boxesT w T1 T2 [a, b, c, d] [e, f, g, h]
set_option maxRecDepth 100000 in
set_option maxHeartbeats 2000000 in
theorem iTalkingOf (t k : Int) (o p : Value) (A B : Option Addr) (n c m d : Nat) (ho : o = .slice A n c) (hp : p = .slice B m d) (w : World) :
    Calls Tryz.prog 35 #[.agg #[.int .i64 t, .int .i64 k, o, p]] w fun e w' => e = .returned (.agg #[.int .i64 k, o, .int .i64 t, p]) ∧ Below w.heap.size w w' := by
  subst ho hp
  obtain ⟨HX, HZ, HB⟩ := go_start w 28 69 (.int .i64 t) (.int .i64 k) (.slice A n c) (.slice B m d) (.int .i64 0) (.slice none 0 0) (.int .i64 0) (.slice none 0 0)
  go_enter Tryz.func35, Tryz.ntmps35
  go_upto_region 1 with fail
  obtain ⟨W0, hW0⟩ : ∃ W, (w.alloc (.cells #[.int .i64 t, .int .i64 k, .slice A n c, .slice B m d] 28)).alloc (.cells #[.int .i64 0, .slice none 0 0, .int .i64 0, .slice none 0 0] 69) = W := ⟨_, rfl⟩
  rw [hW0] at HX HZ HB ⊢
  clear hW0
  have hc0 := HX.out.cell (i := 0) (v := .int .i64 t) rfl
  have hc1 := HX.out.cell (i := 1) (v := .int .i64 k) rfl
  have hc2 := HX.out.cell (i := 2) (v := .slice A n c) rfl
  have hc3 := HX.out.cell (i := 3) (v := .slice B m d) rfl
  obtain ⟨⟨ha0, ha1, ha2, ha3, ha4, ha5, ha6, ha7⟩, ⟨hb2, hb3⟩, ⟨hb4, hb5⟩, ⟨hb6, hb7⟩, HOUT⟩ := HZ.out.store4 (.int .i64 k) (.slice A n c) (.int .i64 t) (.slice B m d)
  have HB5 := Lib.hid (bel_set4 HB.out (show w.heap.size ≤ w.heap.size + 1 by omega) (.int .i64 k) (.slice A n c) (.int .i64 t) (.slice B m d))
  go_wp2_with fail
  refine bodyPost_ret_by (results_going (b := w.heap.size + 1) rfl rfl HOUT) rfl ⟨rfl, HB5.out⟩
set_option maxRecDepth 100000 in
set_option maxHeartbeats 4000000 in
theorem iBack (T : TalkV) (A B : Option Addr) (n c m d : Nat) (text : ByteArray) (R : World → Prop) (w : World) (hT : TkR R T A n c B m d) (hbw : R w) (hpl : T.past.length ≤ 1048576) (X : TalkV) (r : Bool) (hr : (doT T 2 text = none ∧ X = T ∧ r = false) ∨ (doT T 2 text = some X ∧ r = true)) :
    Calls Tryz.prog 74 #[.agg #[.int .i64 T.now.known, .slice A n c, .int .i64 T.things, .slice B m d], .string text] w (GoPost X r R w) := by
  obtain rfl := hT.hn
  obtain rfl := hT.pn
  have HT := Lib.hid hT
  have HW := Lib.hid hbw
  have hdo : doT T 2 text = if text = ⟨#[]⟩ then (match T.past.getLast? with | some x => some ⟨T.things, x, T.past.dropLast⟩ | none => none) else none := by
    unfold doT talkDo
    rw [if_pos rfl, show asksT.none = (⟨#[]⟩ : ByteArray) from rfl]
    by_cases h : text = ⟨#[]⟩
    · rw [if_pos h, if_pos h]
      cases T.past.getLast? <;> rfl
    · rw [if_neg h, if_neg h]
  obtain ⟨t, ht⟩ : ∃ t, T.things = t := ⟨_, rfl⟩
  obtain ⟨k, hk⟩ : ∃ k, T.now.known = k := ⟨_, rfl⟩
  have HTQ : Hid (T.things = t ∧ T.now.known = k) := ⟨ht, hk⟩
  obtain ⟨HX, HZ, HB⟩ := go_start w 69 69 (.int .i64 k) (.slice A T.now.op.length c) (.int .i64 t) (.slice B T.past.length d) (.int .i64 0) (.slice none 0 0) (.int .i64 0) (.slice none 0 0)
  rw [ht, hk]
  by_cases hte : text = ⟨#[]⟩
  · subst hte
    rw [if_pos rfl] at hdo
    by_cases hp0 : T.past.length = 0
    · have hpn : T.past = [] := List.eq_nil_of_length_eq_zero hp0
      have HXR : Hid (X = T ∧ r = false) := by
        rw [hdo, hpn] at hr
        rcases hr with ⟨_, h2, h3⟩ | ⟨h2, _⟩
        · exact ⟨h2, h3⟩
        · cases h2
      obtain ⟨hXT, rfl⟩ := HXR.out
      obtain rfl : T = X := hXT.symm
      have hji : (T.past.length : Int) - 1 = -1 := by omega
      clear hdo hr hT ht hk hp0 hpn
      go_enter Tryz.func74, Tryz.ntmps74
      go_upto_region 1 with fail
      obtain ⟨W0, hW0⟩ : ∃ W, (w.alloc (.cells #[.int .i64 k, .slice A T.now.op.length c, .int .i64 t, .slice B T.past.length d] 69)).alloc (.cells #[.int .i64 0, .slice none 0 0, .int .i64 0, .slice none 0 0] 69) = W := ⟨_, rfl⟩
      rw [hW0] at HX HZ HB ⊢
      clear hW0
      have hc0 := HX.out.cell (i := 0) (v := .int .i64 k) rfl
      have hc1 := HX.out.cell (i := 1) (v := .slice A T.now.op.length c) rfl
      have hc2 := HX.out.cell (i := 2) (v := .int .i64 t) rfl
      have hc3 := HX.out.cell (i := 3) (v := .slice B T.past.length d) rfl
      obtain ⟨⟨ha0, ha1, ha2, ha3, ha4, ha5, ha6, ha7⟩, ⟨hb2, hb3⟩, ⟨hb4, hb5⟩, ⟨hb6, hb7⟩, HOUT⟩ := HZ.out.store4 (.int .i64 k) (.slice A T.now.op.length c) (.int .i64 t) (.slice B T.past.length d)
      have HB5 := Lib.hid (bel_set4 HB.out (show w.heap.size ≤ w.heap.size + 1 by omega) (.int .i64 k) (.slice A T.now.op.length c) (.int .i64 t) (.slice B T.past.length d))
      have HTE : Hid (∀ w2, R w2 → TkAt w2 T A _ c B _ d) := fun _ h => HT.out.at_ h
      go_wp2_with fail
      refine bodyPost_ret_by (results_goingB (b := w.heap.size + 1) rfl rfl rfl HOUT) rfl ⟨A, _, c, B, _, d, by rw [HTQ.out.1, HTQ.out.2]; rfl, fun w2 h _ => HTE.out w2 h, HB5.out⟩
    · obtain ⟨j, hjl⟩ : ∃ j, T.past.length = j + 1 := ⟨T.past.length - 1, by omega⟩
      have hjlt : j < T.past.length := by omega
      have hji : (T.past.length : Int) - 1 = (j : Int) := by omega
      have hjd : decide ((j : Int) < 0) = false := decide_eq_false (by omega)
      have HXR : Hid (∀ x, T.past[j]? = some x → X = ⟨T.things, x, T.past.dropLast⟩ ∧ r = true) := fun x hx => by
        rw [hdo, List.getLast?_eq_getElem?, hjl, Nat.add_sub_cancel, hx] at hr
        rcases hr with ⟨h2, _⟩ | ⟨h2, h3⟩
        · cases h2
        · exact ⟨(Option.some.inj h2).symm, h3⟩
      have HJL := Lib.hid hjl
      clear hdo hr hT ht hk hp0 hjl
      go_enter Tryz.func74, Tryz.ntmps74
      go_upto_region 1 with fail
      obtain ⟨W0, hW0⟩ : ∃ W, (w.alloc (.cells #[.int .i64 k, .slice A T.now.op.length c, .int .i64 t, .slice B T.past.length d] 69)).alloc (.cells #[.int .i64 0, .slice none 0 0, .int .i64 0, .slice none 0 0] 69) = W := ⟨_, rfl⟩
      rw [hW0] at HX HZ HB ⊢
      clear hW0
      have hc0 := HX.out.cell (i := 0) (v := .int .i64 k) rfl
      have hc1 := HX.out.cell (i := 1) (v := .slice A T.now.op.length c) rfl
      have hc2 := HX.out.cell (i := 2) (v := .int .i64 t) rfl
      have hc3 := HX.out.cell (i := 3) (v := .slice B T.past.length d) rfl
      obtain ⟨x, hxq⟩ : ∃ x, T.past[j]? = some x := ⟨_, List.getElem?_eq_getElem hjlt⟩
      have hx := Lib.hid hxq
      obtain ⟨Ai, ci, b, off, rfl, hle, hmi, hLS⟩ := HT.out.last HW.out HJL.out hxq
      have HLS := Lib.hid hLS
      obtain ⟨_, he0, he1, _⟩ := hLS W0 (HT.out.fw _ _ HW.out HB.out)
      clear hLS hxq
      obtain ⟨hXE, rfl⟩ := HXR.out x hx.out
      have HXE := Lib.hid hXE
      clear hXE
      have hjp : j ≤ d := by have := HT.out.pc; omega
      have HZD : Hid (Box W0.drew (w.heap.size + 1) 69 [.int .i64 0, .slice none 0 0, .int .i64 0, .slice none 0 0]) := HZ.out.drew
      obtain ⟨⟨ha0, ha1, ha2, ha3, ha4, ha5, ha6, ha7⟩, ⟨hb2, hb3⟩, ⟨hb4, hb5⟩, ⟨hb6, hb7⟩, HOUT⟩ := HZD.out.store4 (.int .i64 x.known) (.slice Ai x.op.length ci) (.int .i64 t) (.slice (some ⟨b, off, none⟩) j d)
      obtain ⟨⟨hz0, hz1, hz2, hz3, hz4, hz5, hz6, hz7⟩, ⟨hy2, hy3⟩, ⟨hy4, hy5⟩, ⟨hy6, hy7⟩, _⟩ := HZ.out.store4 (.int .i64 x.known) (.slice Ai x.op.length ci) (.int .i64 t) (.slice (some ⟨b, off, none⟩) j d)
      have HB5 := Lib.hid (bel_set4 (bel_drewN HB.out 1) (show w.heap.size ≤ w.heap.size + 1 by omega) (.int .i64 x.known) (.slice Ai x.op.length ci) (.int .i64 t) (.slice (some ⟨b, off, none⟩) j d))
      go_upto_region 4 with fail
      have HK2 : Hid (((((W0.drew.setCell ⟨w.heap.size + 1, 0, none⟩ (.int .i64 x.known)).setCell ⟨w.heap.size + 1, 1, none⟩ (.slice Ai x.op.length ci)).setCell ⟨w.heap.size + 1, 2, none⟩ (.int .i64 t)).setCell ⟨w.heap.size + 1, 3, none⟩ (.slice (some ⟨b, off, none⟩) j d)).cell? ⟨w.heap.size, 2, none⟩ = some (.int .i64 t) ∧ ((((W0.drew.setCell ⟨w.heap.size + 1, 0, none⟩ (.int .i64 x.known)).setCell ⟨w.heap.size + 1, 1, none⟩ (.slice Ai x.op.length ci)).setCell ⟨w.heap.size + 1, 2, none⟩ (.int .i64 t)).setCell ⟨w.heap.size + 1, 3, none⟩ (.slice (some ⟨b, off, none⟩) j d)).cell? ⟨w.heap.size, 3, none⟩ = some (.slice (some ⟨b, off, none⟩) T.past.length d) ∧
          ((((W0.drew.setCell ⟨w.heap.size + 1, 0, none⟩ (.int .i64 x.known)).setCell ⟨w.heap.size + 1, 1, none⟩ (.slice Ai x.op.length ci)).setCell ⟨w.heap.size + 1, 2, none⟩ (.int .i64 t)).setCell ⟨w.heap.size + 1, 3, none⟩ (.slice (some ⟨b, off, none⟩) j d)).cell? ⟨b, off + j * 2, none⟩ = some (.int .i64 x.known) ∧ ((((W0.drew.setCell ⟨w.heap.size + 1, 0, none⟩ (.int .i64 x.known)).setCell ⟨w.heap.size + 1, 1, none⟩ (.slice Ai x.op.length ci)).setCell ⟨w.heap.size + 1, 2, none⟩ (.int .i64 t)).setCell ⟨w.heap.size + 1, 3, none⟩ (.slice (some ⟨b, off, none⟩) j d)).cell? ⟨b, off + j * 2 + 1, none⟩ = some (.slice Ai x.op.length ci)) := by
        have hbw : b < w.heap.size := by
          exact (HLS.out w HW.out).1
        have h4 := (HX.out.drew).other4 (g := w.heap.size + 1) (by omega) (.int .i64 x.known) (.slice Ai x.op.length ci) (.int .i64 t) (.slice (some ⟨b, off, none⟩) j d)
        refine ⟨h4.cell rfl, h4.cell rfl, ?_, ?_⟩
        · rw [cell_set_far (by omega), cell_set_far (by omega), cell_set_far (by omega), cell_set_far (by omega)]; exact he0
        · rw [cell_set_far (by omega), cell_set_far (by omega), cell_set_far (by omega), cell_set_far (by omega)]; exact he1
      go_region_held3 (fun w' => w'.cell? ⟨w.heap.size, 2, none⟩ = some (.int .i64 t) ∧ w'.cell? ⟨w.heap.size, 3, none⟩ = some (.slice (some ⟨b, off, none⟩) T.past.length d) ∧ w'.cell? ⟨b, off + j * 2, none⟩ = some (.int .i64 x.known) ∧ w'.cell? ⟨b, off + j * 2 + 1, none⟩ = some (.slice Ai x.op.length ci))
        (first | exact ⟨hc2, hc3, he0, he1⟩ | exact HK2.out | go_keep)
        (fail)
      all_goals
        have HTX : Hid (∀ w2, R w2 → TkAt w2 X Ai x.op.length ci (some ⟨b, off, none⟩) j d) := fun w2 h2 => by
          rw [HXE.out]
          exact (HLS.out w2 h2).2.2.2
        go_wp2_with fail
        refine bodyPost_ret_by (results_goingB (b := w.heap.size + 1) rfl rfl rfl HOUT) rfl ⟨Ai, _, ci, _, _, d, by rw [show X.things = t from (by rw [HXE.out]; exact HTQ.out.1), show X.now.known = x.known from (by rw [HXE.out])]; rfl, fun w2 h _ => HTX.out w2 h, HB5.out⟩
  · rw [if_neg hte] at hdo
    have HXR : Hid (X = T ∧ r = false) := by
      rw [hdo] at hr
      rcases hr with ⟨_, h2, h3⟩ | ⟨h2, _⟩
      · exact ⟨h2, h3⟩
      · cases h2
    obtain ⟨hXT, rfl⟩ := HXR.out
    obtain rfl : T = X := hXT.symm
    obtain ⟨hn1, hn2, hn3⟩ := text_ne hte
    have hn4 : (text.toList != (ByteArray.mk #[]).toList) = true := by rw [bne, hn1]; rfl
    clear hdo hr hT ht hk hte
    go_enter Tryz.func74, Tryz.ntmps74
    go_upto_region 1 with fail
    obtain ⟨W0, hW0⟩ : ∃ W, (w.alloc (.cells #[.int .i64 k, .slice A T.now.op.length c, .int .i64 t, .slice B T.past.length d] 69)).alloc (.cells #[.int .i64 0, .slice none 0 0, .int .i64 0, .slice none 0 0] 69) = W := ⟨_, rfl⟩
    rw [hW0] at HX HZ HB ⊢
    clear hW0
    have hc0 := HX.out.cell (i := 0) (v := .int .i64 k) rfl
    have hc1 := HX.out.cell (i := 1) (v := .slice A T.now.op.length c) rfl
    have hc2 := HX.out.cell (i := 2) (v := .int .i64 t) rfl
    have hc3 := HX.out.cell (i := 3) (v := .slice B T.past.length d) rfl
    obtain ⟨⟨ha0, ha1, ha2, ha3, ha4, ha5, ha6, ha7⟩, ⟨hb2, hb3⟩, ⟨hb4, hb5⟩, ⟨hb6, hb7⟩, HOUT⟩ := HZ.out.store4 (.int .i64 k) (.slice A T.now.op.length c) (.int .i64 t) (.slice B T.past.length d)
    have HB5 := Lib.hid (bel_set4 HB.out (show w.heap.size ≤ w.heap.size + 1 by omega) (.int .i64 k) (.slice A T.now.op.length c) (.int .i64 t) (.slice B T.past.length d))
    have HTE : Hid (∀ w2, R w2 → TkAt w2 T A _ c B _ d) := fun _ h => HT.out.at_ h
    go_wp2_with fail
    refine bodyPost_ret_by (results_goingB (b := w.heap.size + 1) rfl rfl rfl HOUT) rfl ⟨A, _, c, B, _, d, by rw [HTQ.out.1, HTQ.out.2]; rfl, fun w2 h _ => HTE.out w2 h, HB5.out⟩
end Go.Proofs.YtmdogidflaplkaaGreat

/-
  What the proofs of this seat's statements share (AskI).
-/
import Derived.Test.YtmdogidflaplkaaGreatU34

namespace Go.Proofs.YtmdogidflaplkaaGreat
open Go.RowKit

theorem grant_true {t : Int} {s : ByteArray} (h : isT t s = true) : grantedI t (issueT t s) = trueT t s := by
  obtain ⟨x, hx⟩ := isS_some.1 (show asksT.isS t s = true from h)
  obtain ⟨h1, h3, _⟩ := senT_ok hx
  rw [granted_ok (issueT_ok hx), (issueT_some hx).1]
  unfold trueT
  rw [hx]
  exact (true_granted h1 h3 x).symm
/-- What asking comes to. -/
def askOk (T : TalkV) (s : ByteArray) : Bool := isT T.things s && (decide (T.now.op.length < 4) && (!Lib.containsS T.now.op s && (!settlesB T.things (issueT T.things s) T.now.known && withinB T.now.known (grantedI T.things (issueT T.things s)))))
theorem do_ask {T : TalkV} {s : ByteArray} (hok : okT T = true) : doT T 1 s = if askOk T s = true then some (pushT T ⟨T.now.known, T.now.op ++ [s]⟩) else none := by
  obtain ⟨hst, _, _⟩ := (talk_parts asksT).1 hok
  obtain ⟨hset, hne, hol, hopen, hnd⟩ := (state_parts asksT).1 hst
  unfold doT talkDo askOk
  rw [if_neg (by decide), if_neg (by decide), if_pos rfl]
  cases hS : isT T.things s with
  | false => rw [if_neg (by rw [show asksT.isS T.things s = isT T.things s from rfl, hS]; decide)]; rfl
  | true =>
    rw [if_pos (show asksT.isS T.things s = true from hS), grant_true hS, settles_sett (show asksT.isS T.things s = true from hS) hset]
    by_cases hw : withinB T.now.known (trueT T.things s) = true
    · by_cases hso : stateOk asksT T.things ⟨T.now.known, T.now.op ++ [s]⟩ = true
      · rw [if_pos ⟨hw, hso⟩]
        obtain ⟨_, _, h4, h5, h6⟩ := (state_parts asksT).1 hso
        have h7 := (h5 s (by simp)).2
        have h8 : s ∉ T.now.op := fun hm => by
          have := (List.nodup_append.1 h6).2.2 s hm s (by simp)
          exact this rfl
        have h9 : Lib.containsS T.now.op s = false := by
          rw [Bool.eq_false_iff]; exact fun h => h8 ((Lib.containsS_iff _ _).1 h)
        have h10 : T.now.op.length < 4 := by simp at h4; omega
        simp only at h7
        rw [if_pos (by rw [hw, h9, h7]; simpa using h10)]
      · rw [if_neg fun h => hso h.2, if_neg]
        intro h
        simp only [Bool.true_and, Bool.and_eq_true, decide_eq_true_eq, Bool.not_eq_true'] at h
        obtain ⟨h1, h2, h3, _⟩ := h
        apply hso
        refine (state_parts asksT).2 ⟨hset, hne, by simp; omega, fun x hx => ?_, ?_⟩
        · rcases List.mem_append.1 hx with hx | hx
          · exact hopen x hx
          · rw [List.mem_singleton] at hx
            subst hx
            exact ⟨hS, h3⟩
        · refine List.nodup_append.2 ⟨hnd, by simp, fun x hx y hy e => ?_⟩
          rw [List.mem_singleton] at hy
          subst hy e
          rw [(Lib.containsS_iff _ _).2 hx] at h2; cases h2
    · rw [if_neg fun h => hw h.1, if_neg]
      intro h
      simp only [Bool.true_and, Bool.and_eq_true] at h
      exact hw h.2.2.2
theorem iCloneS {A : Option Addr} {n c : Nat} {xs : List ByteArray} (w : World) (hn : n = xs.length) (hl : n ≤ 1048576) (hA : Strs w A xs) :
    Calls Tryz.prog 99 #[.slice A n c] w fun e w' => ∃ v, e = .returned v ∧ OwnsS w' w.heap.size v xs ∧ Below w.heap.size w w' := by
  subst hn
  by_cases h0 : xs.length = 0
  · obtain rfl : xs = [] := List.eq_nil_of_length_eq_zero h0
    cases A with
    | none =>
      refine (Tryz.slices_Clone_string_nil 0 c w).mono ?_
      rintro e w' ⟨rfl, rfl⟩
      exact ⟨_, rfl, OwnsS.nil _ _, Below.refl _ _⟩
    | some a =>
      refine (Tryz.slices_Clone_string_zero a c w).mono ?_
      rintro e w' ⟨v, rfl, ho, _, hb⟩
      exact ⟨v, rfl, ho, hb⟩
  · obtain ⟨b, off, rfl, _, hc⟩ := hA (by omega)
    refine (Tryz.slices_Clone_string b off xs.length c xs w (Nat.le_refl _) (by omega) hc).mono ?_
    rintro e w' ⟨v, rfl, ho, _, hb⟩
    rw [List.take_length] at ho
    exact ⟨v, rfl, ho, hb⟩
theorem quiet_from {P : Program} {f : FuncId} {args : Array Value} {w : World} {n : Nat} {v : Value}
    (h : Calls P f args (w.drewN n) fun e w' => e = .returned v ∧ ∃ m, w' = (w.drewN n).drewN m) : Calls P f args (w.drewN n) fun e w'' => e = .returned v ∧ ∃ m, w'' = w.drewN m :=
  h.mono fun _ _ ⟨he, m, hm⟩ => ⟨he, n + m, by rw [hm, World.drewN_drewN]⟩
theorem quiet_here {P : Program} {f : FuncId} {args : Array Value} {w : World} {n : Nat} {v : Value}
    (h : Calls P f args (w.drewN n) fun e w' => e = .returned v ∧ w.drewN n = w') : Calls P f args (w.drewN n) fun e w'' => e = .returned v ∧ ∃ m, w'' = w.drewN m :=
  h.mono fun _ _ ⟨he, hm⟩ => ⟨he, n, hm.symm⟩
theorem iGranted9 {t : Int} {xs : List Int} {v : Int} (h : Hid (grantedI t xs = v)) (A : Option Addr) (nn c : Nat) (w : World) (hn : nn = xs.length) (hl : nn ≤ 1048576) (hc : nn ≤ c) (hm : c ≤ maxLen) (hA : Nums .i64 w A xs) :
    Calls Tryz.prog 98 #[.int .i64 t, .slice A nn c] w fun e w' => e = .returned (.int .i64 v) ∧ ∃ n, w' = w.drewN n :=
  (iGrantedBy t A nn c xs w hn hl hc hm hA).mono fun _ _ ⟨he, hw⟩ => ⟨he.trans (ret_int h.out), hw⟩
theorem iWithin9 {a b : Int} {v : Bool} (h : Hid (withinB a b = v)) (ha : 0 ≤ a) (ha2 : a < 1024) (hb : 0 ≤ b) (hb2 : b < 1024) (w : World) :
    Calls Tryz.prog 97 #[.int .i64 a, .int .i64 b] w fun e w' => e = .returned (.bool v) ∧ w = w' :=
  (iWithin a b ha ha2 hb hb2 w).mono fun _ _ ⟨he, hw⟩ => ⟨he.trans (ret_bool h.out), hw⟩
theorem cells4 {w w5 : World} {T : TalkV} {q t : Int} {A B : Option Addr} {c d : Nat} (hX : Box w5 w.heap.size 69 [.int .i64 q, .slice A T.now.op.length c, .int .i64 t, .slice B T.past.length d]) : (w5.cell? ⟨w.heap.size, 0, none⟩ = some (.int .i64 q) ∧ w5.cell? ⟨w.heap.size, 1, none⟩ = some (.slice A T.now.op.length c) ∧ w5.cell? ⟨w.heap.size, 2, none⟩ = some (.int .i64 t) ∧ w5.cell? ⟨w.heap.size, 3, none⟩ = some (.slice B T.past.length d)) :=
  ⟨hX.cell (i := 0) (v := .int .i64 q) rfl, hX.cell (i := 1) (v := .slice A T.now.op.length c) rfl, hX.cell (i := 2) (v := .int .i64 t) rfl, hX.cell (i := 3) (v := .slice B T.past.length d) rfl⟩
theorem ask_c1 {w5 w6 : World} {op : List ByteArray} {text : ByteArray} {v : Value} (ho : OwnsS w6 w5.drew.heap.size v op) (hb : Below w5.drew.heap.size w5.drew w6) :
    OwnsS (w6.alloc (.cells #[.string text] 9)) w5.drew.heap.size v op ∧ Strs (w6.alloc (.cells #[.string text] 9)) (some ⟨w6.heap.size, 0, none⟩) [text] ∧ w5.drew.heap.size ≤ (w6.alloc (.cells #[.string text] 9)).heap.size ∧ Below w5.drew.heap.size w5.drew (w6.alloc (.cells #[.string text] 9)) := by
  have hba := hb.alloc hb.size (.cells #[.string text] 9)
  exact ⟨ho.below ((Below.refl _ _).alloc (Nat.le_refl _) _), strs_one w6 text, hba.size, hba⟩
theorem ask_c2 {w5 w6 : World} {op : List ByteArray} {text : ByteArray} {v : Value} (_ho : OwnsS w6 (w5.drew.alloc (.cells #[.string text] 9)).heap.size v op) (hb : Below (w5.drew.alloc (.cells #[.string text] 9)).heap.size (w5.drew.alloc (.cells #[.string text] 9)) w6) :
    Strs w6 (some ⟨w5.heap.size, 0, none⟩) [text] ∧ (w5.drew.alloc (.cells #[.string text] 9)).heap.size ≤ w6.heap.size ∧ Below w5.drew.heap.size w5.drew w6 := by
  have h := (strs_one w5.drew text).below hb
  exact ⟨h, hb.size, bel_trans ((Below.refl _ _).alloc (Nat.le_refl _) _) hb⟩
def AskOn (w5 w7 : World) (xs : List ByteArray) (A2 : Option Addr) (n2 c2 : Nat) : Prop := n2 = xs.length ∧ n2 ≤ c2 ∧ c2 ≤ maxLen ∧ OwnsS w7 w5.heap.size (.slice A2 n2 c2) xs ∧ Below w5.heap.size w5 w7
theorem ask_app {w5 wa w7 : World} {op xs : List ByteArray} {v v2 : Value} {base : Nat} (ho : OwnsS wa base v op) (hB : Below w5.drew.heap.size w5.drew wa) (hle : w5.drew.heap.size ≤ base) (hr : OwnsS w7 base v2 xs) (hg : wa.grownBy w7 v.ownBlock) :
    ∃ A2 n2 c2, v2 = .slice A2 n2 c2 ∧ AskOn w5 w7 xs A2 n2 c2 := by
  have hb2 : Below w5.drew.heap.size w5.drew w7 := below_appendLS hB hB.size ho hle hg
  obtain ⟨A2, c2, rfl, h1, h2, _⟩ := hr.form
  exact ⟨A2, _, c2, rfl, rfl, h1, h2, hr.base hle, bel_trans (bel_drewN (Below.refl w5.heap.size w5) 1) hb2⟩
theorem ask_gone {R : World → Prop} {w w5 w7 : World} {T X : TalkV} {q t : Int} {A B A2 : Option Addr} {c d n2 c2 : Nat} {text : ByteArray} (hTQ : T.things = t ∧ T.now.known = q) (hXT : X = pushT T ⟨T.now.known, T.now.op ++ [text]⟩) (hT : TkR R T A T.now.op.length c B T.past.length d) (hW : R w) (hpl : T.past.length ≤ 10)
    (hX : Box w5 w.heap.size 69 [.int .i64 q, .slice A T.now.op.length c, .int .i64 t, .slice B T.past.length d]) (hZ : Box w5 (w.heap.size + 1) 69 [.int .i64 0, .slice none 0 0, .int .i64 0, .slice none 0 0]) (hB : Below w.heap.size w w5) (h : AskOn w5 w7 (T.now.op ++ [text]) A2 n2 c2) :
    Calls Tryz.prog 94 #[.agg #[.int .i64 q, .slice A T.now.op.length c, .int .i64 t, .slice B T.past.length d], .agg #[.int .i64 q, .slice A2 n2 c2]] w7 fun e w8 => ∃ B' m' d', e = .returned (.agg #[.int .i64 q, .slice A2 n2 c2, .int .i64 t, .slice B' m' d']) ∧
      (w8.cell? ⟨w.heap.size, 0, none⟩ = some (.int .i64 q) ∧ w8.cell? ⟨w.heap.size, 1, none⟩ = some (.slice A T.now.op.length c) ∧ w8.cell? ⟨w.heap.size, 2, none⟩ = some (.int .i64 t) ∧ w8.cell? ⟨w.heap.size, 3, none⟩ = some (.slice B T.past.length d)) ∧ (((((w8.setCell ⟨w.heap.size + 1, 0, none⟩ (.int .i64 q)).setCell ⟨w.heap.size + 1, 1, none⟩ (.slice A2 n2 c2)).setCell ⟨w.heap.size + 1, 2, none⟩ (.int .i64 t)).setCell ⟨w.heap.size + 1, 3, none⟩ (.slice B' m' d')).cell? ⟨w.heap.size, 0, none⟩ = some (.int .i64 q) ∧ ((((w8.setCell ⟨w.heap.size + 1, 0, none⟩ (.int .i64 q)).setCell ⟨w.heap.size + 1, 1, none⟩ (.slice A2 n2 c2)).setCell ⟨w.heap.size + 1, 2, none⟩ (.int .i64 t)).setCell ⟨w.heap.size + 1, 3, none⟩ (.slice B' m' d')).cell? ⟨w.heap.size, 1, none⟩ = some (.slice A T.now.op.length c) ∧ ((((w8.setCell ⟨w.heap.size + 1, 0, none⟩ (.int .i64 q)).setCell ⟨w.heap.size + 1, 1, none⟩ (.slice A2 n2 c2)).setCell ⟨w.heap.size + 1, 2, none⟩ (.int .i64 t)).setCell ⟨w.heap.size + 1, 3, none⟩ (.slice B' m' d')).cell? ⟨w.heap.size, 2, none⟩ = some (.int .i64 t) ∧ ((((w8.setCell ⟨w.heap.size + 1, 0, none⟩ (.int .i64 q)).setCell ⟨w.heap.size + 1, 1, none⟩ (.slice A2 n2 c2)).setCell ⟨w.heap.size + 1, 2, none⟩ (.int .i64 t)).setCell ⟨w.heap.size + 1, 3, none⟩ (.slice B' m' d')).cell? ⟨w.heap.size, 3, none⟩ = some (.slice B T.past.length d)) ∧ Hid ((w8.cell? ⟨w.heap.size + 1, 0, none⟩ = some (.int .i64 0) ∧ w8.cell? ⟨w.heap.size + 1, 1, none⟩ = some (.slice none 0 0) ∧ w8.cell? ⟨w.heap.size + 1, 2, none⟩ = some (.int .i64 0) ∧ w8.cell? ⟨w.heap.size + 1, 3, none⟩ = some (.slice none 0 0) ∧ w8.frozen? ⟨w.heap.size + 1, 0, none⟩ = false ∧ w8.frozen? ⟨w.heap.size + 1, 1, none⟩ = false ∧ w8.frozen? ⟨w.heap.size + 1, 2, none⟩ = false ∧ w8.frozen? ⟨w.heap.size + 1, 3, none⟩ = false) ∧ ((w8.setCell ⟨w.heap.size + 1, 0, none⟩ (.int .i64 q)).cell? ⟨w.heap.size + 1, 1, none⟩ = some (.slice none 0 0) ∧ (w8.setCell ⟨w.heap.size + 1, 0, none⟩ (.int .i64 q)).frozen? ⟨w.heap.size + 1, 1, none⟩ = false) ∧ (((w8.setCell ⟨w.heap.size + 1, 0, none⟩ (.int .i64 q)).setCell ⟨w.heap.size + 1, 1, none⟩ (.slice A2 n2 c2)).cell? ⟨w.heap.size + 1, 2, none⟩ = some (.int .i64 0) ∧ ((w8.setCell ⟨w.heap.size + 1, 0, none⟩ (.int .i64 q)).setCell ⟨w.heap.size + 1, 1, none⟩ (.slice A2 n2 c2)).frozen? ⟨w.heap.size + 1, 2, none⟩ = false) ∧ ((((w8.setCell ⟨w.heap.size + 1, 0, none⟩ (.int .i64 q)).setCell ⟨w.heap.size + 1, 1, none⟩ (.slice A2 n2 c2)).setCell ⟨w.heap.size + 1, 2, none⟩ (.int .i64 t)).cell? ⟨w.heap.size + 1, 3, none⟩ = some (.slice none 0 0) ∧ (((w8.setCell ⟨w.heap.size + 1, 0, none⟩ (.int .i64 q)).setCell ⟨w.heap.size + 1, 1, none⟩ (.slice A2 n2 c2)).setCell ⟨w.heap.size + 1, 2, none⟩ (.int .i64 t)).frozen? ⟨w.heap.size + 1, 3, none⟩ = false)) ∧ Hid (Box ((((w8.setCell ⟨w.heap.size + 1, 0, none⟩ (.int .i64 q)).setCell ⟨w.heap.size + 1, 1, none⟩ (.slice A2 n2 c2)).setCell ⟨w.heap.size + 1, 2, none⟩ (.int .i64 t)).setCell ⟨w.heap.size + 1, 3, none⟩ (.slice B' m' d')) (w.heap.size + 1) 69 [.int .i64 q, .slice A2 n2 c2, .int .i64 t, .slice B' m' d']) ∧ Hid ((∀ w2, R w2 → Keeps w.heap.size ((((w8.setCell ⟨w.heap.size + 1, 0, none⟩ (.int .i64 q)).setCell ⟨w.heap.size + 1, 1, none⟩ (.slice A2 n2 c2)).setCell ⟨w.heap.size + 1, 2, none⟩ (.int .i64 t)).setCell ⟨w.heap.size + 1, 3, none⟩ (.slice B' m' d')) w2 → TkAt w2 X A2 n2 c2 B' m' d') ∧ Below w.heap.size w ((((w8.setCell ⟨w.heap.size + 1, 0, none⟩ (.int .i64 q)).setCell ⟨w.heap.size + 1, 1, none⟩ (.slice A2 n2 c2)).setCell ⟨w.heap.size + 1, 2, none⟩ (.int .i64 t)).setCell ⟨w.heap.size + 1, 3, none⟩ (.slice B' m' d'))) := by
  obtain ⟨h1, h2, h3, h4, h5⟩ := h
  have hgo := iGoneOn T A B _ c _ d R w7 hT (hT.fw _ _ hW (bel_trans hB h5)) hpl T.now.known A2 n2 c2 (T.now.op ++ [text]) h1 h2 h3
  obtain ⟨rfl, rfl⟩ := hTQ
  refine hgo.mono ?_
  rintro e w8 ⟨B', m', d', rfl, hat, hb⟩
  have hX8 := (hX.below h5).below hb
  have hZ8 := (hZ.below h5).below hb
  obtain ⟨f1, f2, f3, f4, hout⟩ := hZ8.store4 (.int .i64 T.now.known) (.slice A2 n2 c2) (.int .i64 T.things) (.slice B' m' d')
  have hbe := bel_set4 (bel_trans (bel_trans hB h5) hb) (show w.heap.size ≤ w.heap.size + 1 by omega) (.int .i64 T.now.known) (.slice A2 n2 c2) (.int .i64 T.things) (.slice B' m' d')
  have hke : Keeps w5.heap.size w8 _ := keeps_set4i hZ.lt (.int .i64 T.now.known) (.slice A2 n2 c2) (.int .i64 T.things) (.slice B' m' d')
  refine ⟨B', m', d', rfl, cells4 hX8, cells4 (hX8.other4 (g := w.heap.size + 1) (by omega) _ _ _ _), ⟨f1, f2, f3, f4⟩, hout, fun w2 g1 g2 => ?_, hbe⟩
  rw [hXT]
  have hk := hke.trans g2 hB.size
  refine hat w2 g1 ⟨hk.1, fun b a1 a2 => hk.2 b (Nat.le_trans h5.size a1) a2⟩ ?_
  subst h1
  exact own_strs ((h4.below hb).keep hk)
theorem size_le_alloc0 (W : World) (o : Obj) : W.heap.size ≤ (W.alloc o).heap.size := by rw [World.size_alloc]; exact Nat.le_succ _
set_option maxRecDepth 100000 in
set_option maxHeartbeats 8000000 in
theorem iAsk (T : TalkV) (A B : Option Addr) (n c m d : Nat) (text : ByteArray) (R : World → Prop) (w : World) (hT : TkR R T A n c B m d) (hbw : R w) (hok : okT T = true) (hx : text.size ≤ 1048576) (X : TalkV) (r : Bool) (hr : (doT T 1 text = none ∧ X = T ∧ r = false) ∨ (doT T 1 text = some X ∧ r = true)) :
    Calls Tryz.prog 73 #[.agg #[.int .i64 T.now.known, .slice A n c, .int .i64 T.things, .slice B m d], .string text] w (GoPost X r R w) := by
  obtain rfl := hT.pn
  obtain rfl := hT.hn
  obtain ⟨hst, hpl, _⟩ := (talk_parts asksT).1 hok
  obtain ⟨hset, _, hol, _, _⟩ := (state_parts asksT).1 hst
  obtain ⟨ht1, ht3, hq0, hqa, hq256⟩ := setOkB_lt hset
  have hx9 : text.size ≤ 9223372036854775807 := by omega
  have HT := Lib.hid hT
  have HW := Lib.hid hbw
  rw [do_ask hok] at hr
  have HXR : Hid ((askOk T text = false → X = T ∧ r = false) ∧ (askOk T text = true → X = pushT T ⟨T.now.known, T.now.op ++ [text]⟩ ∧ r = true)) := by
    refine ⟨fun h => ?_, fun h => ?_⟩
    · rw [h, if_neg (by decide)] at hr
      rcases hr with ⟨_, h⟩ | ⟨h, _⟩
      · exact h
      · cases h
    · rw [h, if_pos rfl] at hr
      rcases hr with ⟨h, _⟩ | ⟨h, h2⟩
      · cases h
      · exact ⟨(Option.some.inj h).symm, h2⟩
  obtain ⟨l, hl⟩ : ∃ l, issueT T.things text = l := ⟨_, rfl⟩
  have hlen := issueT_len T.things text
  rw [hl] at hlen
  obtain ⟨g, hg⟩ : ∃ g, grantedI T.things l = g := ⟨_, rfl⟩
  have hg9 : isT T.things text = true → 0 ≤ g ∧ g < 256 := fun h => by
    rw [← hg, ← hl, grant_true h]
    obtain ⟨x, hx⟩ := isS_some.1 (show asksT.isS T.things text = true from h)
    have h1 := true_range hx
    have h2 := (allOf_lt T.things).2
    omega
  obtain ⟨z1, hz1⟩ : ∃ z, isT T.things text = z := ⟨_, rfl⟩
  obtain ⟨z3, hz3⟩ : ∃ z, Lib.containsS T.now.op text = z := ⟨_, rfl⟩
  obtain ⟨z4, hz4⟩ : ∃ z, settlesB T.things l T.now.known = z := ⟨_, rfl⟩
  obtain ⟨z5, hz5⟩ : ∃ z, withinB T.now.known g = z := ⟨_, rfl⟩
  have hAO : askOk T text = (z1 && (decide (T.now.op.length < 4) && (!z3 && (!z4 && z5)))) := by unfold askOk; rw [hl, hg, hz1, hz3, hz4, hz5]
  rw [hAO] at HXR
  rw [hz1] at hg9
  obtain ⟨t, ht⟩ : ∃ t, T.things = t := ⟨_, rfl⟩
  obtain ⟨q, hq⟩ : ∃ q, T.now.known = q := ⟨_, rfl⟩
  have HTQ : Hid (T.things = t ∧ T.now.known = q) := ⟨ht, hq⟩
  rw [ht] at hl hg hz1 hz4
  rw [hq] at hz4 hz5 hq0 hq256
  have HL := Lib.hid hl
  have HG := Lib.hid hg
  have HI := Lib.hid hz1
  have H4 := Lib.hid hz4
  have H5 := Lib.hid hz5
  have HCO : Hid (∀ W : World, Strs W A T.now.op → Calls Tryz.prog 82 #[.slice A T.now.op.length c, .string text] W fun e w' => e = .returned (.bool z3) ∧ W = w') := fun W hs => by rw [← hz3]; exact iContainsS text _ c rfl (by omega) hs
  obtain ⟨HX, HZ, HB⟩ := go_start w 69 69 (.int .i64 q) (.slice A T.now.op.length c) (.int .i64 t) (.slice B T.past.length d) (.int .i64 0) (.slice none 0 0) (.int .i64 0) (.slice none 0 0)
  rw [ht, hq]
  clear hr hAO hT hok hst hset ht hq hl hg hz1 hz3 hz4 hz5 ht1 ht3 hqa
  go_enter Tryz.func73, Tryz.ntmps73
  go_upto_region 1 with fail
  obtain ⟨W0, hW0⟩ : ∃ W, (w.alloc (.cells #[.int .i64 q, .slice A T.now.op.length c, .int .i64 t, .slice B T.past.length d] 69)).alloc (.cells #[.int .i64 0, .slice none 0 0, .int .i64 0, .slice none 0 0] 69) = W := ⟨_, rfl⟩
  rw [hW0] at HX HZ HB ⊢
  clear hW0
  have hc2 := HX.out.cell (i := 2) (v := .int .i64 t) rfl
  go_wp2_with fail
  refine (iIssueOf_is HL HI _ hx9).mono ?_
  rintro e w1 ⟨v, rfl, ho, hb⟩
  have HXE := Lib.hid (HX.out.below hb)
  have HZE := Lib.hid (HZ.out.below hb)
  have HBE := Lib.hid (bel_trans HB.out hb)
  obtain ⟨Al, cl, rfl, _, _, _, _⟩ := ho.form
  have HR := Lib.hid (Owns.row ho (by omega))
  clear hb hc2 HX HZ HB ho
  cases z1 with
  | false =>
    obtain ⟨hXT, rfl⟩ := HXR.out.1 rfl
    obtain rfl : T = X := hXT.symm
    clear hXT hlen
    have hc0 := HXE.out.cell (i := 0) (v := .int .i64 q) rfl
    have hc1 := HXE.out.cell (i := 1) (v := .slice A T.now.op.length c) rfl
    have hc2 := HXE.out.cell (i := 2) (v := .int .i64 t) rfl
    have hc3 := HXE.out.cell (i := 3) (v := .slice B T.past.length d) rfl
    obtain ⟨⟨ha0, ha1, ha2, ha3, ha4, ha5, ha6, ha7⟩, ⟨hb2, hb3⟩, ⟨hb4, hb5⟩, ⟨hb6, hb7⟩, HOUT, HFIN⟩ := going_same (t := t) (q := q) HT.out HBE.out HZE.out
    go_wp2_with fail
    refine bodyPost_ret_by (results_goingB (b := w.heap.size + 1) rfl rfl rfl HOUT) rfl ⟨A, _, c, B, _, d, by rw [HTQ.out.1, HTQ.out.2]; rfl, HFIN.out⟩
  | true =>
    obtain ⟨hg0, hg1⟩ := hg9 rfl
    have hc0 := HXE.out.cell (i := 0) (v := .int .i64 q) rfl
    have hc1 := HXE.out.cell (i := 1) (v := .slice A T.now.op.length c) rfl
    have hc2 := HXE.out.cell (i := 2) (v := .int .i64 t) rfl
    by_cases h4 : (4 : Int) ≤ (T.now.op.length : Int)
    · have hd : decide ((4 : Int) ≤ (T.now.op.length : Int)) = true := decide_eq_true h4
      obtain ⟨hXT, rfl⟩ := HXR.out.1 (by rw [decide_eq_false (by omega)]; rfl)
      obtain rfl : T = X := hXT.symm
      clear hXT hlen h4 hc0 hc1 hc2
      have hc0 := HXE.out.cell (i := 0) (v := .int .i64 q) rfl
      have hc1 := HXE.out.cell (i := 1) (v := .slice A T.now.op.length c) rfl
      have hc2 := HXE.out.cell (i := 2) (v := .int .i64 t) rfl
      have hc3 := HXE.out.cell (i := 3) (v := .slice B T.past.length d) rfl
      obtain ⟨⟨ha0, ha1, ha2, ha3, ha4, ha5, ha6, ha7⟩, ⟨hb2, hb3⟩, ⟨hb4, hb5⟩, ⟨hb6, hb7⟩, HOUT, HFIN⟩ := going_same (t := t) (q := q) HT.out HBE.out HZE.out
      go_wp2_with fail
      refine bodyPost_ret_by (results_goingB (b := w.heap.size + 1) rfl rfl rfl HOUT) rfl ⟨A, _, c, B, _, d, by rw [HTQ.out.1, HTQ.out.2]; rfl, HFIN.out⟩
    · have hd : decide ((4 : Int) ≤ (T.now.op.length : Int)) = false := decide_eq_false h4
      have HD : Hid (decide (T.now.op.length < 4) = true) := decide_eq_true (by omega)
      rw [HD.out, Bool.true_and, Bool.true_and] at HXR
      clear h4
      have HCW := Lib.hid (HCO.out w1 (HT.out.hA _ (HT.out.fw _ _ HW.out HBE.out)))
      cases z3 with
      | true =>
        obtain ⟨hXT, rfl⟩ := HXR.out.1 rfl
        obtain rfl : T = X := hXT.symm
        clear hXT hlen hc0 hc1 hc2
        have hc0 := HXE.out.cell (i := 0) (v := .int .i64 q) rfl
        have hc1 := HXE.out.cell (i := 1) (v := .slice A T.now.op.length c) rfl
        have hc2 := HXE.out.cell (i := 2) (v := .int .i64 t) rfl
        have hc3 := HXE.out.cell (i := 3) (v := .slice B T.past.length d) rfl
        obtain ⟨⟨ha0, ha1, ha2, ha3, ha4, ha5, ha6, ha7⟩, ⟨hb2, hb3⟩, ⟨hb4, hb5⟩, ⟨hb6, hb7⟩, HOUT, HFIN⟩ := going_same (t := t) (q := q) HT.out HBE.out HZE.out
        go_wp2_with (go_at_call 82; refine HCW.out.mono ?_; rintro e w2 ⟨rfl, rfl⟩)
        refine bodyPost_ret_by (results_goingB (b := w.heap.size + 1) rfl rfl rfl HOUT) rfl ⟨A, _, c, B, _, d, by rw [HTQ.out.1, HTQ.out.2]; rfl, HFIN.out⟩
      | false =>
        have hlc := HR.out.hc
        cases z4 with
        | true =>
          obtain ⟨hXT, rfl⟩ := HXR.out.1 rfl
          obtain rfl : T = X := hXT.symm
          clear hXT hlen
          go_wp2_with (go_at_call 82; refine HCW.out.mono ?_; rintro e w2 ⟨rfl, rfl⟩)
          go_quiet ((go_at_call 96; exact quiet_from (iSettles_is H4 Al l.length cl _ HR.out.hn HR.out.hl HR.out.hc HR.out.hm (HR.out.drewN _).hA)))
          have HXN := Lib.hid (HXE.out.below (bel_drewN (Below.refl w1.heap.size w1) nq))
          have HZN := Lib.hid (HZE.out.below (bel_drewN (Below.refl w1.heap.size w1) nq))
          have HBN := Lib.hid (bel_drewN HBE.out nq)
          obtain ⟨w5, hw5⟩ : ∃ W, w1.drewN nq = W := ⟨_, rfl⟩
          rw [hw5] at HXN HZN HBN ⊢
          clear hw5 hc0 hc1 hc2 HCW HCO HXE HZE HBE
          have hc0 := HXN.out.cell (i := 0) (v := .int .i64 q) rfl
          have hc1 := HXN.out.cell (i := 1) (v := .slice A T.now.op.length c) rfl
          have hc2 := HXN.out.cell (i := 2) (v := .int .i64 t) rfl
          have hc3 := HXN.out.cell (i := 3) (v := .slice B T.past.length d) rfl
          obtain ⟨⟨ha0, ha1, ha2, ha3, ha4, ha5, ha6, ha7⟩, ⟨hb2, hb3⟩, ⟨hb4, hb5⟩, ⟨hb6, hb7⟩, HOUT, HFIN⟩ := going_same (t := t) (q := q) HT.out HBN.out HZN.out
          go_wp2_with fail
          refine bodyPost_ret_by (results_goingB (b := w.heap.size + 1) rfl rfl rfl HOUT) rfl ⟨A, _, c, B, _, d, by rw [HTQ.out.1, HTQ.out.2]; rfl, HFIN.out⟩
        | false =>
          cases z5 with
          | false =>
            obtain ⟨hXT, rfl⟩ := HXR.out.1 rfl
            obtain rfl : T = X := hXT.symm
            clear hXT hlen
            go_wp2_with (go_at_call 82; refine HCW.out.mono ?_; rintro e w2 ⟨rfl, rfl⟩)
            go_quiet (first | (go_at_call 96; exact quiet_from (iSettles_is H4 Al l.length cl _ HR.out.hn HR.out.hl HR.out.hc HR.out.hm (HR.out.drewN _).hA)) | (go_at_call 98; exact quiet_from (iGranted9 HG Al l.length cl _ HR.out.hn HR.out.hl HR.out.hc HR.out.hm (HR.out.drewN _).hA)) | (go_at_call 97; exact quiet_here (iWithin9 H5 hq0 (by omega) hg0 (by omega) _)))
            have HXN := Lib.hid (HXE.out.below (bel_drewN (Below.refl w1.heap.size w1) nq))
            have HZN := Lib.hid (HZE.out.below (bel_drewN (Below.refl w1.heap.size w1) nq))
            have HBN := Lib.hid (bel_drewN HBE.out nq)
            obtain ⟨w5, hw5⟩ : ∃ W, w1.drewN nq = W := ⟨_, rfl⟩
            rw [hw5] at HXN HZN HBN ⊢
            clear hw5 hc0 hc1 hc2 HCW HCO HXE HZE HBE
            have hc0 := HXN.out.cell (i := 0) (v := .int .i64 q) rfl
            have hc1 := HXN.out.cell (i := 1) (v := .slice A T.now.op.length c) rfl
            have hc2 := HXN.out.cell (i := 2) (v := .int .i64 t) rfl
            have hc3 := HXN.out.cell (i := 3) (v := .slice B T.past.length d) rfl
            obtain ⟨⟨ha0, ha1, ha2, ha3, ha4, ha5, ha6, ha7⟩, ⟨hb2, hb3⟩, ⟨hb4, hb5⟩, ⟨hb6, hb7⟩, HOUT, HFIN⟩ := going_same (t := t) (q := q) HT.out HBN.out HZN.out
            go_wp2_with fail
            refine bodyPost_ret_by (results_goingB (b := w.heap.size + 1) rfl rfl rfl HOUT) rfl ⟨A, _, c, B, _, d, by rw [HTQ.out.1, HTQ.out.2]; rfl, HFIN.out⟩
          | true =>
            obtain ⟨hXT, rfl⟩ := HXR.out.2 rfl
            have HXT := Lib.hid hXT
            clear hXT hlen
            go_wp2_with (go_at_call 82; refine HCW.out.mono ?_; rintro e w2 ⟨rfl, rfl⟩)
            go_quiet (first | (go_at_call 96; exact quiet_from (iSettles_is H4 Al l.length cl _ HR.out.hn HR.out.hl HR.out.hc HR.out.hm (HR.out.drewN _).hA)) | (go_at_call 98; exact quiet_from (iGranted9 HG Al l.length cl _ HR.out.hn HR.out.hl HR.out.hc HR.out.hm (HR.out.drewN _).hA)) | (go_at_call 97; exact quiet_here (iWithin9 H5 hq0 (by omega) hg0 (by omega) _)))
            have HXN := Lib.hid (HXE.out.below (bel_drewN (Below.refl w1.heap.size w1) nq))
            have HZN := Lib.hid (HZE.out.below (bel_drewN (Below.refl w1.heap.size w1) nq))
            have HBN := Lib.hid (bel_drewN HBE.out nq)
            obtain ⟨w5, hw5⟩ : ∃ W, w1.drewN nq = W := ⟨_, rfl⟩
            rw [hw5] at HXN HZN HBN ⊢
            clear hw5 hc0 hc1 hc2 HCW HCO HXE HZE HBE
            have hc0 := HXN.out.cell (i := 0) (v := .int .i64 q) rfl
            have hc1 := HXN.out.cell (i := 1) (v := .slice A T.now.op.length c) rfl
            have hc2 := HXN.out.cell (i := 2) (v := .int .i64 t) rfl
            have hc3 := HXN.out.cell (i := 3) (v := .slice B T.past.length d) rfl
            go_upto_region 6 with fail
            have HC1 := Lib.hid (iCloneS (c := c) w5.drew rfl (by omega) (HT.out.hA _ (HT.out.fw _ _ HW.out (bel_drewN HBN.out 1))))
            have HC2 := Lib.hid (iCloneS (c := c) (w5.drew.alloc (.cells #[.string text] 9)) rfl (by omega) (HT.out.hA _ (HT.out.fw _ _ HW.out ((bel_drewN HBN.out 1).alloc HBN.out.size _))))
            have HPL := Lib.hid hpl
            have HLN : Hid (T.now.op.length + 1 ≤ 4194304) := by unfold Hid; omega
            clear hpl
            refine wp_region_held_drew (S := (fun w' => w'.cell? ⟨w.heap.size, 0, none⟩ = some (.int .i64 q) ∧ w'.cell? ⟨w.heap.size, 1, none⟩ = some (.slice A T.now.op.length c) ∧ w'.cell? ⟨w.heap.size, 2, none⟩ = some (.int .i64 t) ∧ w'.cell? ⟨w.heap.size, 3, none⟩ = some (.slice B T.past.length d))) (by kernel_rfl) ?_ (fun hHeld => ?_)
            · exact ⟨hc0, hc1, hc2, hc3⟩
            refine wpAnyH_take (i := 0) (v := ?_) rfl (by kernel_rfl) (by kernel_rfl) (by kernel_rfl) (fun _ _ _ h => h) (Or.inl ⟨by rfl, ?_⟩) (by assumption) ?_
            rotate_left
            · ((intro wz hSw; (try dsimp only at hSw); go_simp) <;> with_reducible rfl)
            try simp only [Act.put, List.setIfInBounds_toArray]
            refine wpAnyH_take (i := 1) (v := ?_) rfl (by kernel_rfl) (by kernel_rfl) (by kernel_rfl) (fun _ _ _ h => h) (Or.inl ⟨by rfl, ?_⟩) (by assumption) ?_
            rotate_left
            · ((intro wz hSw; (try dsimp only at hSw); go_simp) <;> with_reducible rfl)
            try simp only [Act.put]
            refine wpAnyH_take (i := 2) (v := ?_) rfl (by kernel_rfl) (by kernel_rfl) (by kernel_rfl) (fun _ _ _ h => h) (Or.inl ⟨by rfl, ?_⟩) (by assumption) ?_
            rotate_left
            · ((intro wz hSw; (try dsimp only at hSw); go_simp) <;> with_reducible rfl)
            try simp only [Act.put]
            refine wpAnyH_take (i := 3) (v := ?_) rfl (by kernel_rfl) (by kernel_rfl) (by kernel_rfl) (fun _ _ _ h => h) (Or.inl ⟨by rfl, ?_⟩) (by assumption) ?_
            rotate_left
            · ((intro wz hSw; (try dsimp only at hSw); go_simp) <;> with_reducible rfl)
            try simp only [Act.put]
            refine wpAnyH_take (i := 4) (v := ?_) rfl (by kernel_rfl) (by kernel_rfl) (by kernel_rfl) (fun _ _ _ h => h) (Or.inl ⟨by rfl, ?_⟩) (by assumption) ?_
            rotate_left
            · ((intro wz hSw; (try dsimp only at hSw); go_simp) <;> with_reducible rfl)
            try simp only [Act.put]
            refine wpAnyH_take (i := 5) (v := ?_) rfl (by kernel_rfl) (by kernel_rfl) (by kernel_rfl) (fun _ _ _ h => h) (Or.inl ⟨by rfl, ?_⟩) (by assumption) ?_
            rotate_left
            · ((intro wz hSw; (try dsimp only at hSw); go_simp) <;> with_reducible rfl)
            try simp only [Act.put]
            refine wpAnyH_take (i := 6) (v := ?_) rfl (by kernel_rfl) (by kernel_rfl) (by kernel_rfl) (fun _ _ _ h => h) (Or.inl ⟨by rfl, ?_⟩) (by assumption) ?_
            rotate_left
            · ((intro wz hSw; (try dsimp only at hSw); go_simp) <;> with_reducible rfl)
            try simp only [Act.put]
            refine wpAnyH_take (i := 8) (v := ?_) rfl (by kernel_rfl) (by kernel_rfl) (by kernel_rfl) (fun _ _ _ h => h) (Or.inl ⟨by rfl, ?_⟩) (by assumption) ?_
            rotate_left
            · ((intro wz hSw; (try dsimp only at hSw); go_simp) <;> with_reducible rfl)
            try simp only [Act.put]
            refine wpAnyH_ready (rs := [7, 9]) (by kernel_rfl) (by simp) ?_
            refine AllReadyH.cons rfl (fun K hK => ?_) ?_
            · (go_simp; (first | (go_at_call 99; (with_reducible refine HC1.out.mono ?_); rintro e w6 ⟨v6, rfl, ho, hb⟩; have HF1 := Lib.hid (ask_c1 (text := text) ho hb); have HK1 := Lib.hid (cells4 (HXN.out.drew.below hb)); clear ho hb) | (go_at_call 99; refine HC2.out.mono ?_; rintro e w6 ⟨v6, rfl, ho, hb⟩; have HF2 := Lib.hid (ask_c2 ho hb); have HO2 := Lib.hid ho; have HK1 := Lib.hid (cells4 ((HXN.out.drew.alloc (.cells #[.string text] 9)).below hb)); clear ho hb)); (try go_simp))
              refine hK.out _ _ ?_ (fun hHeld => ?_)
              · (first | exact HK4.out | exact HK3.out | exact HK2.out | exact HK1.out | exact ⟨hc0, hc1, hc2, hc3⟩ | go_keep)
              clear hK K
              try simp only [Act.put, List.setIfInBounds_toArray, List.set_cons_zero, List.set_cons_succ]
              refine wpAnyH_ready (rs := [9]) (by kernel_rfl) (by simp) ?_
              refine AllReadyH.cons rfl (fun K hK => ?_) ?_
              · go_simp
                refine hK.out _ _ ?_ (fun hHeld => ?_)
                · (first | exact HK4.out | exact HK3.out | exact HK2.out | exact HK1.out | exact ⟨hc0, hc1, hc2, hc3⟩ | go_keep)
                clear hK K
                try simp only [Act.put, List.setIfInBounds_toArray, List.set_cons_zero, List.set_cons_succ]
                refine wpAnyH_ready (rs := [10]) (by kernel_rfl) (by simp) ?_
                refine AllReadyH.cons rfl (fun K hK => ?_) ?_
                · (first | (refine step_appS rfl _ _ rfl w5.drew.heap.size v6 T.now.op [text] rfl HF1.out.1 (some ⟨w6.heap.size, 0, none⟩) 1 1 rfl rfl (Nat.le_refl _) HF1.out.2.1 HLN.out HF1.out.2.2.1 ?_; intro v7 w7 hr hg; obtain ⟨A2, n2, c2, rfl, hq⟩ := ask_app HF1.out.1 HF1.out.2.2.2 (Nat.le_refl _) hr hg; have HGO := Lib.hid (ask_gone HTQ.out HXT.out HT.out HW.out HPL.out HXN.out HZN.out HBN.out hq); have HK2 := Lib.hid (cells4 (HXN.out.below hq.2.2.2.2)); clear hr hg hq; simp only [List.getElem_toArray, List.getElem_cons_succ, List.getElem_cons_zero]) | (refine step_appS rfl _ _ rfl (w5.drew.alloc (.cells #[.string text] 9)).heap.size v6 T.now.op [text] rfl HO2.out (some ⟨w5.heap.size, 0, none⟩) 1 1 rfl rfl (Nat.le_refl _) HF2.out.1 HLN.out HF2.out.2.1 ?_; intro v7 w7 hr hg; obtain ⟨A2, n2, c2, rfl, hq⟩ := ask_app HO2.out HF2.out.2.2 (size_le_alloc0 w5.drew _) hr hg; have HGO := Lib.hid (ask_gone HTQ.out HXT.out HT.out HW.out HPL.out HXN.out HZN.out HBN.out hq); have HK2 := Lib.hid (cells4 (HXN.out.below hq.2.2.2.2)); clear hr hg hq; simp only [List.getElem_toArray, List.getElem_cons_succ, List.getElem_cons_zero]))
                  refine hK.out _ _ ?_ (fun hHeld => ?_)
                  · (first | exact HK4.out | exact HK3.out | exact HK2.out | exact HK1.out | exact ⟨hc0, hc1, hc2, hc3⟩ | go_keep)
                  clear hK K
                  try simp only [Act.put, List.setIfInBounds_toArray, List.set_cons_zero, List.set_cons_succ]
                  refine wpAnyH_take (i := 11) (v := ?_) rfl (by kernel_rfl) (by kernel_rfl) (by kernel_rfl) (fun _ _ _ h => h) (Or.inl ⟨by rfl, ?_⟩) (by assumption) ?_
                  rotate_left
                  · ((intro wz hSw; (try dsimp only at hSw); go_simp) <;> with_reducible rfl)
                  try simp only [Act.put, List.setIfInBounds_toArray]
                  refine wpAnyH_ready (rs := [12]) (by kernel_rfl) (by simp) ?_
                  refine AllReadyH.cons rfl (fun K hK => ?_) ?_
                  · (go_simp; (go_at_call 94; refine HGO.out.mono ?_; rintro e w8 ⟨B', m', d', rfl, hk8, hks, hf, HOUT, HFIN⟩; obtain ⟨⟨ha0, ha1, ha2, ha3, ha4, ha5, ha6, ha7⟩, ⟨hb2, hb3⟩, ⟨hb4, hb5⟩, ⟨hb6, hb7⟩⟩ := hf.out; have HK3 := Lib.hid hk8; have HK4 := Lib.hid hks; clear hk8 hks hf); (try go_simp))
                    refine hK.out _ _ ?_ (fun hHeld => ?_)
                    · (first | exact HK4.out | exact HK3.out | exact HK2.out | exact HK1.out | exact ⟨hc0, hc1, hc2, hc3⟩ | go_keep)
                    clear hK K
                    try simp only [Act.put, List.setIfInBounds_toArray, List.set_cons_zero, List.set_cons_succ]
                    refine wpAnyH_ready (rs := [13]) (by kernel_rfl) (by simp) ?_
                    refine AllReadyH.cons rfl (fun K hK => ?_) ?_
                    · go_simp
                      refine hK.out _ _ ?_ (fun hHeld => ?_)
                      · (first | exact HK4.out | exact HK3.out | exact HK2.out | exact HK1.out | exact ⟨hc0, hc1, hc2, hc3⟩ | go_keep)
                      clear hK K
                      try simp only [Act.put]
                      refine wpAnyH_ready (rs := [14]) (by kernel_rfl) (by simp) ?_
                      refine AllReadyH.cons rfl (fun K hK => ?_) ?_
                      · go_simp
                        refine hK.out _ _ ?_ (fun hHeld => ?_)
                        · (first | exact HK4.out | exact HK3.out | exact HK2.out | exact HK1.out | exact ⟨hc0, hc1, hc2, hc3⟩ | go_keep)
                        clear hK K
                        try simp only [Act.put, List.setIfInBounds_toArray, List.set_cons_zero, List.set_cons_succ]
                        refine wpAnyH_done (by kernel_rfl) ?_ _
                        go_wp2_with fail
                        refine bodyPost_ret_by (results_goingB (b := w.heap.size + 1) rfl rfl rfl HOUT) rfl ⟨_, _, _, _, _, _, by rw [show X.things = t from (by rw [HXT.out]; exact HTQ.out.1), show X.now.known = q from (by rw [HXT.out]; exact HTQ.out.2)]; rfl, HFIN.out⟩
                      exact AllReadyH.nil
                    exact AllReadyH.nil
                  exact AllReadyH.nil
                exact AllReadyH.nil
              exact AllReadyH.nil
            refine AllReadyH.cons rfl (fun K hK => ?_) ?_
            · go_simp
              refine hK.out _ _ ?_ (fun hHeld => ?_)
              · (first | exact HK4.out | exact HK3.out | exact HK2.out | exact HK1.out | exact ⟨hc0, hc1, hc2, hc3⟩ | go_keep)
              clear hK K
              try simp only [Act.put, List.setIfInBounds_toArray, List.set_cons_zero, List.set_cons_succ]
              refine wpAnyH_ready (rs := [7]) (by kernel_rfl) (by simp) ?_
              refine AllReadyH.cons rfl (fun K hK => ?_) ?_
              · (go_simp; (first | (go_at_call 99; (with_reducible refine HC1.out.mono ?_); rintro e w6 ⟨v6, rfl, ho, hb⟩; have HF1 := Lib.hid (ask_c1 (text := text) ho hb); have HK1 := Lib.hid (cells4 (HXN.out.drew.below hb)); clear ho hb) | (go_at_call 99; refine HC2.out.mono ?_; rintro e w6 ⟨v6, rfl, ho, hb⟩; have HF2 := Lib.hid (ask_c2 ho hb); have HO2 := Lib.hid ho; have HK1 := Lib.hid (cells4 ((HXN.out.drew.alloc (.cells #[.string text] 9)).below hb)); clear ho hb)); (try go_simp))
                refine hK.out _ _ ?_ (fun hHeld => ?_)
                · (first | exact HK4.out | exact HK3.out | exact HK2.out | exact HK1.out | exact ⟨hc0, hc1, hc2, hc3⟩ | go_keep)
                clear hK K
                try simp only [Act.put, List.setIfInBounds_toArray, List.set_cons_zero, List.set_cons_succ]
                refine wpAnyH_ready (rs := [10]) (by kernel_rfl) (by simp) ?_
                refine AllReadyH.cons rfl (fun K hK => ?_) ?_
                · (first | (refine step_appS rfl _ _ rfl w5.drew.heap.size v6 T.now.op [text] rfl HF1.out.1 (some ⟨w6.heap.size, 0, none⟩) 1 1 rfl rfl (Nat.le_refl _) HF1.out.2.1 HLN.out HF1.out.2.2.1 ?_; intro v7 w7 hr hg; obtain ⟨A2, n2, c2, rfl, hq⟩ := ask_app HF1.out.1 HF1.out.2.2.2 (Nat.le_refl _) hr hg; have HGO := Lib.hid (ask_gone HTQ.out HXT.out HT.out HW.out HPL.out HXN.out HZN.out HBN.out hq); have HK2 := Lib.hid (cells4 (HXN.out.below hq.2.2.2.2)); clear hr hg hq; simp only [List.getElem_toArray, List.getElem_cons_succ, List.getElem_cons_zero]) | (refine step_appS rfl _ _ rfl (w5.drew.alloc (.cells #[.string text] 9)).heap.size v6 T.now.op [text] rfl HO2.out (some ⟨w5.heap.size, 0, none⟩) 1 1 rfl rfl (Nat.le_refl _) HF2.out.1 HLN.out HF2.out.2.1 ?_; intro v7 w7 hr hg; obtain ⟨A2, n2, c2, rfl, hq⟩ := ask_app HO2.out HF2.out.2.2 (size_le_alloc0 w5.drew _) hr hg; have HGO := Lib.hid (ask_gone HTQ.out HXT.out HT.out HW.out HPL.out HXN.out HZN.out HBN.out hq); have HK2 := Lib.hid (cells4 (HXN.out.below hq.2.2.2.2)); clear hr hg hq; simp only [List.getElem_toArray, List.getElem_cons_succ, List.getElem_cons_zero]))
                  refine hK.out _ _ ?_ (fun hHeld => ?_)
                  · (first | exact HK4.out | exact HK3.out | exact HK2.out | exact HK1.out | exact ⟨hc0, hc1, hc2, hc3⟩ | go_keep)
                  clear hK K
                  try simp only [Act.put, List.setIfInBounds_toArray, List.set_cons_zero, List.set_cons_succ]
                  refine wpAnyH_take (i := 11) (v := ?_) rfl (by kernel_rfl) (by kernel_rfl) (by kernel_rfl) (fun _ _ _ h => h) (Or.inl ⟨by rfl, ?_⟩) (by assumption) ?_
                  rotate_left
                  · ((intro wz hSw; (try dsimp only at hSw); go_simp) <;> with_reducible rfl)
                  try simp only [Act.put, List.setIfInBounds_toArray]
                  refine wpAnyH_ready (rs := [12]) (by kernel_rfl) (by simp) ?_
                  refine AllReadyH.cons rfl (fun K hK => ?_) ?_
                  · (go_simp; (go_at_call 94; refine HGO.out.mono ?_; rintro e w8 ⟨B', m', d', rfl, hk8, hks, hf, HOUT, HFIN⟩; obtain ⟨⟨ha0, ha1, ha2, ha3, ha4, ha5, ha6, ha7⟩, ⟨hb2, hb3⟩, ⟨hb4, hb5⟩, ⟨hb6, hb7⟩⟩ := hf.out; have HK3 := Lib.hid hk8; have HK4 := Lib.hid hks; clear hk8 hks hf); (try go_simp))
                    refine hK.out _ _ ?_ (fun hHeld => ?_)
                    · (first | exact HK4.out | exact HK3.out | exact HK2.out | exact HK1.out | exact ⟨hc0, hc1, hc2, hc3⟩ | go_keep)
                    clear hK K
                    try simp only [Act.put, List.setIfInBounds_toArray, List.set_cons_zero, List.set_cons_succ]
                    refine wpAnyH_ready (rs := [13]) (by kernel_rfl) (by simp) ?_
                    refine AllReadyH.cons rfl (fun K hK => ?_) ?_
                    · go_simp
                      refine hK.out _ _ ?_ (fun hHeld => ?_)
                      · (first | exact HK4.out | exact HK3.out | exact HK2.out | exact HK1.out | exact ⟨hc0, hc1, hc2, hc3⟩ | go_keep)
                      clear hK K
                      try simp only [Act.put]
                      refine wpAnyH_ready (rs := [14]) (by kernel_rfl) (by simp) ?_
                      refine AllReadyH.cons rfl (fun K hK => ?_) ?_
                      · go_simp
                        refine hK.out _ _ ?_ (fun hHeld => ?_)
                        · (first | exact HK4.out | exact HK3.out | exact HK2.out | exact HK1.out | exact ⟨hc0, hc1, hc2, hc3⟩ | go_keep)
                        clear hK K
                        try simp only [Act.put, List.setIfInBounds_toArray, List.set_cons_zero, List.set_cons_succ]
                        refine wpAnyH_done (by kernel_rfl) ?_ _
                        go_wp2_with fail
                        refine bodyPost_ret_by (results_goingB (b := w.heap.size + 1) rfl rfl rfl HOUT) rfl ⟨_, _, _, _, _, _, by rw [show X.things = t from (by rw [HXT.out]; exact HTQ.out.1), show X.now.known = q from (by rw [HXT.out]; exact HTQ.out.2)]; rfl, HFIN.out⟩
                      exact AllReadyH.nil
                    exact AllReadyH.nil
                  exact AllReadyH.nil
                exact AllReadyH.nil
              exact AllReadyH.nil
            exact AllReadyH.nil
end Go.Proofs.YtmdogidflaplkaaGreat

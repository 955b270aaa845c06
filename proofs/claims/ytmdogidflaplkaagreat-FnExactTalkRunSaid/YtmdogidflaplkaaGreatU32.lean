/-
  What the proofs of this seat's statements share (MrkX, MrkY).
-/
import Derived.Test.YtmdogidflaplkaaGreatU21
import Derived.Test.YtmdogidflaplkaaGreatU23
import Derived.Test.YtmdogidflaplkaaGreatU31

namespace Go.Proofs.YtmdogidflaplkaaGreat
open Go.RowKit

/-- How many marks states take whose open questions are so many. -/
def cntX : List Nat → Nat
  | [] => 0
  | n :: ns => n + 1 + cntX ns
/-- The marked states. -/
def marksX : Nat → List Nat → List (St ByteArray)
  | _, [] => []
  | k, n :: ns => ⟨(k : Int), marksS (k + 1) n⟩ :: marksX (k + 1 + n) ns
theorem marksX_len : ∀ (ns : List Nat) (k : Nat), (marksX k ns).length = ns.length
  | [], _ => rfl
  | n :: ns, k => by rw [marksX, List.length_cons, List.length_cons, marksX_len ns]
theorem marksX_at : ∀ (ns : List Nat) (k i n : Nat), ns[i]? = some n → (marksX k ns)[i]? = some ⟨((k + cntX (ns.take i) : Nat) : Int), marksS (k + cntX (ns.take i) + 1) n⟩
  | [], k, i, n, h => by simp at h
  | m :: ns, k, 0, n, h => by
    simp only [List.getElem?_cons_zero, Option.some.injEq] at h
    subst h
    simp [marksX, cntX]
  | m :: ns, k, i + 1, n, h => by
    rw [List.getElem?_cons_succ] at h
    rw [marksX, List.getElem?_cons_succ, marksX_at ns _ i n h, List.take_succ_cons, cntX]
    rw [show k + 1 + m + cntX (ns.take i) = k + (m + 1 + cntX (ns.take i)) by omega]
theorem cntX_next : ∀ (ns : List Nat) (i n : Nat), ns[i]? = some n → cntX (ns.take (i + 1)) = cntX (ns.take i) + 1 + n
  | [], i, n, h => by simp at h
  | m :: ns, 0, n, h => by
    simp only [List.getElem?_cons_zero, Option.some.injEq] at h
    subst h
    simp [cntX]; omega
  | m :: ns, i + 1, n, h => by
    rw [List.getElem?_cons_succ] at h
    rw [List.take_succ_cons, List.take_succ_cons, cntX, cntX, cntX_next ns i n h]; omega
theorem cntX_le : ∀ (ns : List Nat) (b : Nat), (∀ n ∈ ns, n ≤ b) → cntX ns ≤ ns.length * (b + 1)
  | [], b, _ => Nat.zero_le _
  | n :: ns, b, h => by
    have h1 := cntX_le ns b fun x hx => h x (List.mem_cons_of_mem _ hx)
    have h2 := h n (by simp)
    rw [cntX, List.length_cons, Nat.succ_mul]; omega
theorem cntX_take (ns : List Nat) (b i : Nat) (hb : ∀ n ∈ ns, n ≤ b) : cntX (ns.take i) ≤ ns.length * (b + 1) :=
  Nat.le_trans (cntX_le _ b fun n hn => hb n (List.mem_of_mem_take hn)) (Nat.mul_le_mul_right _ (by rw [List.length_take]; omega))
theorem cnt_bound {ns : List Nat} (hl : ns.length ≤ 1048576) (hs : ∀ n ∈ ns, n ≤ 1048576) (i : Nat) : cntX (ns.take i) ≤ 1099512676352 := by
  have h1 := cntX_take ns 1048576 i hs
  omega
def lensX (xs : List (St ByteArray)) : List Nat := xs.map fun x => x.op.length
theorem lensX_len (xs : List (St ByteArray)) : (lensX xs).length = xs.length := by unfold lensX; simp
theorem lensX_at {xs : List (St ByteArray)} {i : Nat} {x : St ByteArray} (h : xs[i]? = some x) : (lensX xs)[i]? = some x.op.length := by unfold lensX; rw [List.getElem?_map, h]; rfl
theorem lensX_le {xs : List (St ByteArray)} {b : Nat} (h : ∀ x ∈ xs, x.op.length ≤ b) : ∀ n ∈ lensX xs, n ≤ b := by
  intro n hn
  unfold lensX at hn
  obtain ⟨x, hx, rfl⟩ := List.mem_map.1 hn
  exact h x hx

/-! Only some blocks turn. -/
structure Turns (P : Nat → Prop) (w w' : World) : Prop where
  os : w'.os = w.os
  tape : w'.tape = w.tape
  output : w'.output = w.output
  size : w.heap.size ≤ w'.heap.size
  block : ∀ k, k < w.heap.size → ¬ P k → w'.heap[k]? = w.heap[k]?
theorem Turns.refl (P : Nat → Prop) (w : World) : Turns P w w := ⟨rfl, rfl, rfl, Nat.le_refl _, fun _ _ _ => rfl⟩
theorem Turns.trans {P : Nat → Prop} {w w1 w2 : World} (h : Turns P w w1) (h2 : Turns P w1 w2) : Turns P w w2 :=
  ⟨h2.os.trans h.os, h2.tape.trans h.tape, h2.output.trans h.output, Nat.le_trans h.size h2.size, fun k hk hp => (h2.block k (Nat.lt_of_lt_of_le hk h.size) hp).trans (h.block k hk hp)⟩
theorem Turns.of_grown {P : Nat → Prop} {w w' : World} {row : Option Nat} (h : w.grownBy w' row) (hr : ∀ k, row = some k → P k) : Turns P w w' :=
  ⟨h.os, h.tape, h.output, h.size, fun k hk hp => h.block k hk fun e => hp (hr k e.symm)⟩
theorem Turns.of_below {P : Nat → Prop} {w w' : World} (h : Below w.heap.size w w') : Turns P w w' := ⟨h.os, h.tape, h.output, h.size, fun k hk _ => h.block k hk⟩
theorem Turns.weak {P Q : Nat → Prop} {w w' : World} (h : Turns P w w') (hpq : ∀ k, P k → Q k) : Turns Q w w' := ⟨h.os, h.tape, h.output, h.size, fun k hk hq => h.block k hk fun hp => hq (hpq k hp)⟩
theorem Turns.below {P : Nat → Prop} {w0 w w' : World} {lo : Nat} (hb : Below lo w0 w) (h : Turns P w w') (hl : lo ≤ w.heap.size) (hp : ∀ k, P k → lo ≤ k) : Below lo w0 w' :=
  ⟨h.os.trans hb.os, h.tape.trans hb.tape, h.output.trans hb.output, Nat.le_trans hb.size h.size, fun k hk => (h.block k (by omega) fun e => by have := hp k e; omega).trans (hb.block k hk)⟩
theorem Turns.keeps {P : Nat → Prop} {w w' : World} {lo : Nat} (h : Turns P w w') (hp : ∀ k, P k → k < lo) : Keeps lo w w' :=
  ⟨h.size, fun k h1 h2 => h.block k h2 fun e => by have := hp k e; omega⟩
theorem rowT {P : Nat → Prop} {w w' : World} {base : Nat} {e : TypeId} {sz n : Nat} {v : Value} {cs : List Value} (h : w.ownsRow base e sz v n cs) (ht : Turns P w w') (hp : ∀ k, v.ownBlock = some k → ¬ P k) : w'.ownsRow base e sz v n cs := by
  refine ⟨h.1, ?_⟩
  rcases h.2 with hn | ⟨g, cap, cur, rfl, hb, hg, rest⟩
  · exact .inl hn
  · exact .inr ⟨g, cap, cur, rfl, hb, (ht.block g (Array.getElem?_eq_some_iff.1 hg).1 (hp g rfl)).trans hg, rest⟩
theorem OwnsS.turns {P : Nat → Prop} {w w' : World} {base : Nat} {v : Value} {xs : List ByteArray} (h : OwnsS w base v xs) (ht : Turns P w w') (hp : ∀ k, v.ownBlock = some k → ¬ P k) : OwnsS w' base v xs := rowT h ht hp
theorem OwnsX.turns {e : TypeId} {P : Nat → Prop} {w w' : World} {base : Nat} {v : Value} {vs : List (Int × Value)} {xs : List (St ByteArray)} (h : OwnsX e w base v vs xs) (ht : Turns P w w') (hp : ∀ k, v.ownBlock = some k → ¬ P k) (hi : ∀ u ∈ vs, ∀ k, u.2.ownBlock = some k → ¬ P k) : OwnsX e w' base v vs xs :=
  ⟨rowT h.row ht hp, h.sees.len, fun i x hx => by
    obtain ⟨u, h1, h2, h3⟩ := h.sees.at_ i x hx
    exact ⟨u, h1, h2.turns ht (hi _ (List.mem_of_getElem? h1)), h3⟩⟩
theorem cellsX_set0 : ∀ (us : List (Int × Value)) (k : Nat) (a : Int) {u : Int × Value}, us[k]? = some u → (cellsX us).set (k * 2) (.int .i64 a) = cellsX (us.set k (a, u.2))
  | [], k, a, u, h => by simp at h
  | x :: us, 0, a, u, h => by cases h; rfl
  | x :: us, k + 1, a, u, h => by
    rw [List.getElem?_cons_succ] at h
    have e : ∀ (y : Int × Value) (l : List (Int × Value)), cellsX (y :: l) = .int .i64 y.1 :: y.2 :: cellsX l := fun _ _ => rfl
    rw [e, show (k + 1) * 2 = k * 2 + 1 + 1 by omega, List.set_cons_succ, List.set_cons_succ, List.set_cons_succ, e, cellsX_set0 us k a h]
/-- The set of one state is turned. -/
theorem OwnsX.setKnown {e : TypeId} {w : World} {base g n c k : Nat} {us : List (Int × Value)} {ys : List (St ByteArray)} {u : Int × Value} {x : St ByteArray} (h : OwnsX e w base (.slice (some ⟨g, 0, none⟩) n c) us ys) (hn : n = us.length) (hk : us[k]? = some u) (hx : ys[k]? = some x) (q : Int) :
    OwnsX e (w.setCell ⟨g, k * 2, none⟩ (.int .i64 q)) base (.slice (some ⟨g, 0, none⟩) n c) (us.set k (q, u.2)) (ys.set k ⟨q, x.op⟩) := by
  subst hn
  have hst := (World.ownsRow.stored h.row (k * 2) (.int .i64 q)).1
  rw [cellsX_set0 us k q hk] at hst
  have hkl := (List.getElem?_eq_some_iff.1 hk).1
  have hl := h.sees.len
  refine ⟨by rw [List.length_set]; exact hst, by rw [List.length_set, List.length_set]; exact hl, fun i y hy => ?_⟩
  have hkeep : ∀ (v : Value) (zs : List ByteArray), OwnsS w base v zs → (v.ownBlock = none ∨ v.ownBlock ≠ some g) → OwnsS (w.setCell ⟨g, k * 2, none⟩ (.int .i64 q)) base v zs := fun v zs h1 h2 => h1.kept (row := some g) (grown_set (World.grownBy.refl w (some g)) _ _) h2
  rw [List.getElem?_set] at hy
  by_cases hik : k = i
  · subst hik
    rw [if_pos rfl, if_pos (by omega)] at hy
    cases hy
    obtain ⟨v, h1, h2, h3⟩ := h.sees.at_ k x hx
    rw [hk] at h1
    cases h1
    exact ⟨v, by rw [List.getElem?_set_self hkl], hkeep _ _ h2 h3, h3⟩
  · rw [if_neg hik] at hy
    obtain ⟨v, h1, h2, h3⟩ := h.sees.at_ i y hy
    exact ⟨v, by rw [List.getElem?_set, if_neg hik]; exact h1, hkeep _ _ h2 h3, h3⟩
theorem pair_ne {us : List (Int × Value)} (hap : us.Pairwise fun u v => ∀ k, u.2.ownBlock = some k → v.2.ownBlock ≠ some k) {i k : Nat} {u v : Int × Value} (hk : us[k]? = some u) (hi : us[i]? = some v) (hne : k ≠ i) : ∀ j, u.2.ownBlock = some j → v.2.ownBlock ≠ some j := by
  obtain ⟨hkl, rfl⟩ := List.getElem?_eq_some_iff.1 hk
  obtain ⟨hil, rfl⟩ := List.getElem?_eq_some_iff.1 hi
  intro j h1 h2
  rw [List.pairwise_iff_getElem] at hap
  rcases Nat.lt_or_gt_of_ne hne with h | h
  · exact hap k i hkl hil h j h1 h2
  · exact hap i k hil hkl h j h2 h1
/-- The open questions of one state are turned, in place. -/
theorem OwnsX.setOpen {e : TypeId} {w w' : World} {base k : Nat} {p : Value} {us : List (Int × Value)} {ys : List (St ByteArray)} {u : Int × Value} {x : St ByteArray} {zs : List ByteArray} (h : OwnsX e w base p us ys) (hap : us.Pairwise fun u v => ∀ k, u.2.ownBlock = some k → v.2.ownBlock ≠ some k) (hk : us[k]? = some u) (hx : ys[k]? = some x) (hg : w.grownBy w' u.2.ownBlock) (ho : OwnsS w' base u.2 zs) :
    OwnsX e w' base p us (ys.set k ⟨x.known, zs⟩) := by
  have hkl := (List.getElem?_eq_some_iff.1 hk).1
  have hl := h.sees.len
  obtain ⟨v0, hv1, hv2, hv3⟩ := h.sees.at_ k x hx
  rw [hk] at hv1
  cases hv1
  have hpne : p.ownBlock = none ∨ p.ownBlock ≠ v0.ownBlock := by
    cases hp : p.ownBlock with
    | none => exact .inl rfl
    | some j =>
      right
      rcases hv3 with h1 | h1
      · rw [h1]; simp
      · rw [hp] at h1; exact fun e2 => h1 e2.symm
  refine ⟨World.ownsRow.kept h.row hg hpne, by rw [List.length_set]; exact hl, fun i y hy => ?_⟩
  rw [List.getElem?_set] at hy
  by_cases hik : k = i
  · subst hik
    rw [if_pos rfl, if_pos (by omega)] at hy
    cases hy
    exact ⟨v0, hk, ho, hv3⟩
  · rw [if_neg hik] at hy
    obtain ⟨v, h1, h2, h3⟩ := h.sees.at_ i y hy
    refine ⟨v, h1, h2.kept hg ?_, h3⟩
    cases hv : v.ownBlock with
    | none => exact .inl rfl
    | some j =>
      right
      intro e2
      exact pair_ne hap hk h1 hik j e2.symm hv
/-- The blocks of a row of states. -/
def BlkX (p : Value) (vs : List (Int × Value)) (b : Nat) : Prop := p.ownBlock = some b ∨ ∃ v ∈ vs.map Prod.snd, v.ownBlock = some b
theorem pair_map {us vs : List (Int × Value)} (h : us.map Prod.snd = vs.map Prod.snd) (hap : vs.Pairwise fun u v => ∀ k, u.2.ownBlock = some k → v.2.ownBlock ≠ some k) : us.Pairwise fun u v => ∀ k, u.2.ownBlock = some k → v.2.ownBlock ≠ some k := by
  have h1 : (vs.map Prod.snd).Pairwise fun u v => ∀ k, u.ownBlock = some k → v.ownBlock ≠ some k := List.pairwise_map.2 hap
  rw [← h] at h1
  exact List.pairwise_map.1 h1
theorem snd_set {us vs : List (Int × Value)} (h : us.map Prod.snd = vs.map Prod.snd) {k : Nat} {u : Int × Value} (hk : us[k]? = some u) (q : Int) : (us.set k (q, u.2)).map Prod.snd = vs.map Prod.snd := by
  rw [List.map_set, ← h]
  apply List.ext_getElem?
  intro i
  rw [List.getElem?_set]
  by_cases hik : k = i
  · subst hik
    rw [if_pos rfl, List.getElem?_map, hk]
    have := (List.getElem?_eq_some_iff.1 hk).1
    rw [if_pos (by rw [List.length_map]; exact this)]; rfl
  · rw [if_neg hik]
theorem lensX_set {xs ys : List (St ByteArray)} (h : lensX ys = lensX xs) {k : Nat} {y : St ByteArray} (hk : ys[k]? = some y) (q : Int) {zs : List ByteArray} (hz : zs.length = y.op.length) : lensX (ys.set k ⟨q, zs⟩) = lensX xs := by
  rw [← h]
  unfold lensX
  apply List.ext_getElem?
  intro i
  rw [List.map_set, List.getElem?_set]
  by_cases hik : k = i
  · subst hik
    have := (List.getElem?_eq_some_iff.1 hk).1
    rw [if_pos rfl, if_pos (by rw [List.length_map]; exact this), List.getElem?_map, hk]
    show some zs.length = some y.op.length
    rw [hz]
  · rw [if_neg hik]
set_option maxRecDepth 100000 in
set_option maxHeartbeats 8000000 in
theorem lMarkStateS (base : Nat) (A : Option Addr) (n c : Nat) (vs : List (Int × Value)) (xs : List (St ByteArray)) (k0 : Nat) (w : World) (hn : n = xs.length) (hl : n ≤ 1048576) (hs : ∀ x ∈ xs, x.op.length ≤ 1048576) (hk : 1 ≤ k0) (hk2 : k0 ≤ 4194304) (hO : OwnsX 25 w base (.slice A n c) vs xs) (hap : vs.Pairwise fun u v => ∀ k, u.2.ownBlock = some k → v.2.ownBlock ≠ some k) :
    Calls Tryz.prog 64 #[.slice A n c, .int .i64 k0] w fun e w' => e = .returned (.int .i64 ((k0 + cntX (lensX xs) : Nat) : Int)) ∧ (∃ us, OwnsX 25 w' base (.slice A n c) us (marksX k0 (lensX xs)) ∧ us.map Prod.snd = vs.map Prod.snd) ∧ Turns (BlkX (.slice A n c) vs) w w' := by
  subst hn
  have HO := Lib.hid hO
  have HAP := Lib.hid hap
  have HCB := Lib.hid (fun i => cnt_bound (ns := lensX xs) (by rw [lensX_len]; exact hl) (lensX_le hs) i)
  have HS := Lib.hid hs
  rcases hO.row.2 with ⟨hv, hz⟩ | ⟨g, cap, cur, hv, hb, hg, hnc, hcm, hcs, _⟩
  · simp only [Value.slice.injEq] at hv
    obtain ⟨rfl, hle', rfl⟩ := hv
    clear hle'
    have hv0 : vs.length = 0 := hz
    have hx0 : xs = [] := List.eq_nil_of_length_eq_zero (by rw [← hO.sees.len]; exact hv0)
    subst hx0
    clear hO hz hap hs
    go_enter Tryz.func64, Tryz.ntmps64
    go_wp2_with fail
    refine wp_loop_rounds 1 ?_
    rw [rounds_succ]
    go_wp2_with fail
    go_ret
    exact ⟨by simp [lensX, cntX], ⟨vs, HO.out, rfl⟩, Turns.refl _ w⟩
  · simp only [Value.slice.injEq] at hv
    obtain ⟨rfl, hle', rfl⟩ := hv
    clear hle'
    have hgl : g < w.heap.size := (Array.getElem?_eq_some_iff.1 hg).1
    clear hO hg hcs hap hs
    go_enter Tryz.func64, Tryz.ntmps64
    go_wp2_with fail
    go_loopw [1, 5] (fun q i wr => ∃ (k : Nat) (us : List (Int × Value)) (ys : List (St ByteArray)), k ≤ xs.length ∧ i = .int .i64 k ∧ q = .int .i64 ((k0 + cntX ((lensX xs).take k) : Nat) : Int) ∧ Hid (us.map Prod.snd = vs.map Prod.snd) ∧ Hid (lensX ys = lensX xs) ∧ Hid (∀ (i : Nat) (y : St ByteArray), i < k → ys[i]? = some y → (marksX k0 (lensX xs))[i]? = some y) ∧
      Hid (OwnsX 25 wr base (.slice (some ⟨g, 0, none⟩) xs.length c) us ys) ∧ Hid (Turns (BlkX (.slice (some ⟨g, 0, none⟩) xs.length c) vs) w wr)) (fun _ i _ => xs.length - (Go.RowKit.intOf i).toNat)
    case atStart => exact ⟨0, vs, xs, Nat.zero_le _, rfl, by simp [cntX], rfl, rfl, (fun i y h => by omega), HO.out, Turns.refl _ w⟩
    case round =>
      obtain ⟨k, us, ys, hk', rfl, rfl, hsnd, hlen, hso, HW, HG⟩ := hrel
      have hyl : ys.length = xs.length := by have h := congrArg List.length hlen.out; rw [lensX_len, lensX_len] at h; exact h
      have hul : us.length = xs.length := by rw [← hyl]; exact HW.out.sees.len
      have HUL := Lib.hid hul
      have HYL := Lib.hid hyl
      clear hyl hul
      by_cases hlt : k < xs.length
      · obtain ⟨y, HY⟩ : ∃ y, Hid (ys[k]? = some y) := ⟨_, List.getElem?_eq_getElem (by rw [HYL.out]; exact hlt)⟩
        obtain ⟨v, hv1, hv2, hv3⟩ := HW.out.sees.at_ k y HY.out
        have HV1 := Lib.hid hv1
        have HLK : Hid ((lensX xs)[k]? = some y.op.length) := by unfold Hid; rw [← hlen.out]; exact lensX_at HY.out
        have hyo : y.op.length ≤ 1048576 := lensX_le HS.out _ (List.mem_of_getElem? HLK.out)
        obtain ⟨Ai, ci, rfl, _⟩ := hv2.form
        obtain ⟨p, HP⟩ : ∃ p : Nat, Hid (k0 + cntX ((lensX xs).take k) = p) := ⟨_, rfl⟩
        have hp1 : 1 ≤ p := by rw [← HP.out]; omega
        have hp2 : p ≤ 2199023255552 := by have := HCB.out k; rw [← HP.out]; omega
        rw [HP.out]
        have HROW : Hid (wr.ownsRow base 25 2 (.slice (some ⟨g, 0, none⟩) xs.length c) xs.length (cellsX us)) := by
          have := HW.out.row
          rw [HUL.out] at this
          exact this
        have hcA := HROW.out.cellAt (k * 2) (by omega)
        have hfA := HROW.out.frozenAt (k * 2)
        rw [(cellsX_get us k _ HV1.out).1] at hcA
        have HW2 := Lib.hid (OwnsX.setKnown HW.out HUL.out.symm HV1.out HY.out (p : Int))
        have HGET : Hid ((us.set k ((p : Int), .slice Ai y.op.length ci))[k]? = some ((p : Int), .slice Ai y.op.length ci)) := by unfold Hid; rw [List.getElem?_set_self (by rw [HUL.out]; exact hlt)]
        have HGEY : Hid ((ys.set k ⟨(p : Int), y.op⟩)[k]? = some ⟨(p : Int), y.op⟩) := by unfold Hid; rw [List.getElem?_set_self (by rw [HYL.out]; exact hlt)]
        have HROW2 : Hid ((wr.setCell ⟨g, k * 2, none⟩ (.int .i64 (p : Int))).ownsRow base 25 2 (.slice (some ⟨g, 0, none⟩) xs.length c) xs.length (cellsX (us.set k ((p : Int), .slice Ai y.op.length ci)))) := by
          have := HW2.out.row
          rw [List.length_set, HUL.out] at this
          exact this
        have hcB := HROW2.out.cellAt (k * 2 + 1) (by omega)
        rw [(cellsX_get _ k _ HGET.out).2] at hcB
        have HOW : Hid (OwnsS (wr.setCell ⟨g, k * 2, none⟩ (.int .i64 (p : Int))) base (.slice Ai y.op.length ci) y.op) := hv2.kept (row := some g) (grown_set (World.grownBy.refl wr (some g)) _ _) hv3
        have HG1 : Hid (Turns (BlkX (.slice (some ⟨g, 0, none⟩) xs.length c) vs) w (wr.setCell ⟨g, k * 2, none⟩ (.int .i64 (p : Int)))) := HG.out.trans (Turns.of_grown (grown_set (World.grownBy.refl wr (some g)) _ _) fun j e => .inl (by cases e; rfl))
        have HBK : Hid (∀ j, (Value.slice Ai y.op.length ci).ownBlock = some j → BlkX (.slice (some ⟨g, 0, none⟩) xs.length c) vs j) := fun j e => .inr ⟨_, by rw [← hsnd.out]; exact List.mem_map.2 ⟨_, List.mem_of_getElem? HV1.out, rfl⟩, e⟩
        have HM := Lib.hid (lMarkStringS base Ai y.op.length ci y.op (p + 1) _ rfl hyo (by omega) (by omega) HOW.out)
        rw [show ((p + 1 : Nat) : Int) = (p : Int) + 1 by omega] at HM
        clear hv1 hv2 hv3
        go_wp2_with fail
        refine HM.out.mono ?_
        rintro e w2 ⟨rfl, ho, hg⟩
        have HX3 := Lib.hid (HW2.out.setOpen (pair_map (snd_set hsnd.out HV1.out (p : Int)) HAP.out) HGET.out HGEY.out hg ho)
        have HG3 := Lib.hid (HG1.out.trans (Turns.of_grown hg HBK.out))
        clear ho hg hcA hfA hcB
        go_wp2_with fail
        go_roundw
        case rel =>
          have hx3 := HX3.out
          rw [List.set_set] at hx3
          refine ⟨k + 1, _, _, by omega, by go_num, by rw [cntX_next _ k _ HLK.out, show k0 + (cntX ((lensX xs).take k) + 1 + y.op.length) = p + 1 + y.op.length by rw [← HP.out]; omega]; go_num, snd_set hsnd.out HV1.out (p : Int), lensX_set hlen.out HY.out (p : Int) (marksS_len _ _), ?_, hx3, HG3.out⟩
          intro i y' hi hy'
          rw [List.getElem?_set] at hy'
          by_cases e : k = i
          · subst e
            rw [if_pos rfl, if_pos (by rw [HYL.out]; exact hlt)] at hy'
            cases hy'
            rw [marksX_at _ k0 k _ HLK.out, HP.out]
          · rw [if_neg e] at hy'
            exact hso.out i y' (by omega) hy'
        case measure => simp [Go.RowKit.intOf]; omega
      · obtain rfl : k = xs.length := by omega
        have HE : Hid (ys = marksX k0 (lensX xs)) := by
          unfold Hid
          apply List.ext_getElem?
          intro i
          by_cases hi : i < xs.length
          · obtain ⟨d, hd⟩ : ∃ d, ys[i]? = some d := ⟨_, List.getElem?_eq_getElem (by rw [HYL.out]; exact hi)⟩
            rw [hd, hso.out i d hi hd]
          · rw [List.getElem?_eq_none (by rw [HYL.out]; omega), List.getElem?_eq_none (by rw [marksX_len, lensX_len]; omega)]
        rw [HE.out] at HW
        have HTK : Hid ((lensX xs).take xs.length = lensX xs) := by
          have := List.take_length (l := lensX xs)
          rw [lensX_len] at this
          exact this
        rw [HTK.out]
        go_wp2_with fail
        go_ret
        exact ⟨rfl, ⟨us, HW.out, hsnd.out⟩, HG.out⟩
set_option maxRecDepth 100000 in
set_option maxHeartbeats 4000000 in
theorem lHeldStateS (A : Option Addr) (n c : Nat) (ns : List Nat) (k0 : Nat) (w : World) (hn : n = ns.length) (hl : n ≤ 1048576) (hs : ∀ x ∈ ns, x ≤ 1048576) (hk : 1 ≤ k0) (hk2 : k0 ≤ 4194304) (hA : StaRow w A (marksX k0 ns)) :
    Calls Tryz.prog 66 #[.slice A n c, .int .i64 k0] w fun e w' => e = .returned (.int .i64 ((k0 + cntX ns : Nat) : Int)) ∧ Below w.heap.size w w' := by
  subst hn
  have HA := Lib.hid hA
  have HCB := Lib.hid (fun i => cnt_bound hl hs i)
  have HS := Lib.hid hs
  clear hA hs
  go_enter Tryz.func66, Tryz.ntmps66
  go_wp2_with fail
  go_loopw [1, 5] (fun q i wr => ∃ k : Nat, k ≤ ns.length ∧ i = .int .i64 k ∧ q = .int .i64 ((k0 + cntX (ns.take k) : Nat) : Int) ∧ Hid (Below w.heap.size w wr)) (fun _ i _ => ns.length - (Go.RowKit.intOf i).toNat)
  case atStart => exact ⟨0, Nat.zero_le _, rfl, by simp [cntX], Below.refl _ _⟩
  case round =>
    obtain ⟨k, hk', rfl, rfl, HB⟩ := hrel
    by_cases hlt : k < ns.length
    · obtain ⟨m, hm⟩ : ∃ m, ns[k]? = some m := ⟨_, List.getElem?_eq_getElem hlt⟩
      obtain ⟨b, off, Ai, ci, x, rfl, he0, he1, _, _, hx, hAi, hbl⟩ := (HA.out.below HB.out).elem (i := k) (by rw [marksX_len]; exact hlt)
      have hxe := hx.out
      rw [marksX_at ns k0 k m hm] at hxe
      cases hxe
      have HM1 := Lib.hid hm
      have hm2 : m ≤ 1048576 := HS.out _ (List.mem_of_getElem? hm)
      obtain ⟨p, HP⟩ : ∃ p : Nat, Hid (k0 + cntX (ns.take k) = p) := ⟨_, rfl⟩
      have hp1 : 1 ≤ p := by rw [← HP.out]; omega
      have hp2 : p ≤ 2199023255552 := by have := HCB.out k; rw [← HP.out]; omega
      simp only [marksS_len] at he1
      rw [HP.out] at he0 hAi ⊢
      have hne : ((p : Int) != (p : Int)) = false := by simp
      have HM := Lib.hid (fun W h => lHeldStringS Ai m ci (p + 1) W (by omega) (by omega) hm2 h)
      rw [show ((p + 1 : Nat) : Int) = (p : Int) + 1 by omega] at HM
      have hnn : decide (((p + 1 + m : Nat) : Int) < 0) = false := decide_eq_false (by omega)
      clear hm hx
      go_wp2_with fail
      refine (HM.out _ hAi.out).mono ?_
      rintro e w2 ⟨rfl, hb⟩
      have HB2 := Lib.hid (bel_trans HB.out hb)
      clear hb he0 he1 hne
      go_wp2_with fail
      go_roundw
      case rel => exact ⟨k + 1, by omega, by go_num, by rw [cntX_next _ k _ HM1.out, show k0 + (cntX (ns.take k) + 1 + m) = p + 1 + m by rw [← HP.out]; omega]; go_num, HB2⟩
      case measure => simp [Go.RowKit.intOf]; omega
    · obtain rfl : k = ns.length := by omega
      rw [List.take_length]
      go_wp2_with fail
      go_ret
      exact ⟨rfl, HB.out⟩
end Go.Proofs.YtmdogidflaplkaaGreat

namespace Go.Proofs.YtmdogidflaplkaaGreat
open Go.RowKit

set_option maxRecDepth 100000 in
theorem lMarkState (base : Nat) (q : Int) (A : Option Addr) (n c : Nat) (ds : List ByteArray) (k0 : Nat) (w : World) (hn : n = ds.length) (hl : n ≤ 1048576) (hk : 1 ≤ k0) (hk2 : k0 ≤ 35184372088832) (hO : OwnsS w base (.slice A n c) ds) :
    Calls Tryz.prog 63 #[.agg #[.int .i64 q, .slice A n c], .int .i64 k0] w fun e w' => e = .returned (.int .i64 ((k0 + n : Nat) : Int)) ∧ OwnsS w' base (.slice A n c) (marksS k0 n) ∧ Turns (fun b => (Value.slice A n c).ownBlock = some b) w w' := by
  have HB : Hid (Below w.heap.size w (w.alloc (.cells #[.int .i64 q, .slice A n c] 25))) := (Below.refl _ _).alloc (Nat.le_refl _) _
  have HM := Lib.hid (lMarkStringS base A n c ds k0 _ hn hl hk hk2 (hO.below HB.out))
  clear hn hl hO
  go_enter Tryz.func63, Tryz.ntmps63
  go_wp2_with fail
  refine HM.out.mono ?_
  rintro e w1 ⟨rfl, ho, hg⟩
  have HF := Lib.hid (And.intro ho ((Turns.of_below HB.out).trans (Turns.of_grown hg (P := fun b => (Value.slice A n c).ownBlock = some b) fun k e => e)))
  clear ho hg
  go_wp2_with fail
  go_ret
  exact ⟨rfl, HF.out.1, HF.out.2⟩
set_option maxRecDepth 100000 in
theorem lHeldState (q : Int) (A : Option Addr) (n c : Nat) (k0 : Nat) (w : World) (hk : 1 ≤ k0) (hk2 : k0 ≤ 35184372088832) (hn : n ≤ 1048576) (ha : Strs w A (marksS k0 n)) :
    Calls Tryz.prog 65 #[.agg #[.int .i64 q, .slice A n c], .int .i64 k0] w fun e w' => e = .returned (.int .i64 ((k0 + n : Nat) : Int)) ∧ Below w.heap.size w w' := by
  have HB : Hid (Below w.heap.size w (w.alloc (.cells #[.int .i64 q, .slice A n c] 25))) := (Below.refl _ _).alloc (Nat.le_refl _) _
  have HM := Lib.hid (lHeldStringS A n c k0 _ hk hk2 hn (ha.below HB.out))
  have hnn : decide (((k0 + n : Nat) : Int) < 0) = false := decide_eq_false (by omega)
  clear ha
  go_enter Tryz.func65, Tryz.ntmps65
  go_wp2_with fail
  refine HM.out.mono ?_
  rintro e w1 ⟨rfl, hb⟩
  have HF := Lib.hid (bel_trans HB.out hb)
  clear hb
  go_wp2_with fail
  go_ret
  exact ⟨rfl, HF.out⟩
/-- The blocks of a talk of the call's own. -/
def BlkT (o p : Value) (vs : List (Int × Value)) (b : Nat) : Prop := o.ownBlock = some b ∨ BlkX p vs b
theorem Box.turns {P : Nat → Prop} {w w' : World} {b : Nat} {T : TypeId} {cs : List Value} (h : Box w b T cs) (ht : Turns P w w') (hp : ¬ P b) : Box w' b T cs := (ht.block b h.lt hp).trans h
theorem blkx_lt {e : TypeId} {w : World} {base : Nat} {v : Value} {vs : List (Int × Value)} {xs : List (St ByteArray)} (h : OwnsX e w base v vs xs) {b : Nat} (hb : BlkX v vs b) : base ≤ b ∧ b < w.heap.size := by
  rcases hb with hb | ⟨u, hu, hb⟩
  · exact h.lt hb
  · obtain ⟨x, hx, rfl⟩ := List.mem_map.1 hu
    exact h.inner x hx b hb
theorem blkt_lt {e : TypeId} {w : World} {base : Nat} {o v : Value} {vs : List (Int × Value)} {os : List ByteArray} {xs : List (St ByteArray)} (ho : OwnsS w base o os) (h : OwnsX e w base v vs xs) {b : Nat} (hb : BlkT o v vs b) : base ≤ b ∧ b < w.heap.size := by
  rcases hb with hb | hb
  · exact ho.lt hb
  · exact blkx_lt h hb
theorem blk_apart {w : World} {base base2 : Nat} {o v : Value} {vs : List (Int × Value)} {os : List ByteArray} {xs : List (St ByteArray)} (ho : OwnsS w base o os) (h : OwnsX 25 w base2 v vs xs) (hap : ApX o vs) {b : Nat} (hb : o.ownBlock = some b) : ¬ BlkX v vs b := by
  rintro (h2 | ⟨u, hu, h2⟩)
  · rcases own_apart ho h.row (by decide) with h3 | h3
    · rw [h3] at hb; cases hb
    · exact h3 (hb.trans h2.symm)
  · obtain ⟨x, hx, rfl⟩ := List.mem_map.1 hu
    exact hap.1 x hx b h2 hb
/-- A talk of the call's own, apart in all its slices. -/
def OwnA (w : World) (lo : Nat) (o p : Value) (vs : List (Int × Value)) (os : List ByteArray) (xs : List (St ByteArray)) : Prop := OwnsS w lo o os ∧ OwnsX 25 w lo p vs xs ∧ ApX o vs
set_option maxRecDepth 100000 in
set_option maxHeartbeats 4000000 in
theorem lMarkTalk (t q : Int) (os : List ByteArray) (xs : List (St ByteArray)) (A B : Option Addr) (n c m d lo : Nat) (vs : List (Int × Value)) (w : World) (hn : n = os.length) (hm : m = xs.length) (hl : n ≤ 1048576) (hl2 : m ≤ 1048576) (hs : ∀ x ∈ xs, x.op.length ≤ 1048576) (hO : OwnA w lo (.slice A n c) (.slice B m d) vs os xs) :
    Calls Tryz.prog 26 #[.agg #[.int .i64 t, .int .i64 q, .slice A n c, .slice B m d], .int .i64 1] w fun e w' => e = .returned (.int .i64 ((1 + n + cntX (lensX xs) : Nat) : Int)) ∧ OwnsS w' lo (.slice A n c) (marksS 1 n) ∧ (∃ us, OwnsX 25 w' lo (.slice B m d) us (marksX (1 + n) (lensX xs))) ∧ Turns (BlkT (.slice A n c) (.slice B m d) vs) w w' := by
  subst hm
  obtain ⟨ho, hx, hap⟩ := hO
  have HX0 : Hid (Box (w.alloc (.cells #[.int .i64 t, .int .i64 q, .slice A n c, .slice B xs.length d] 28)) w.heap.size 28 [.int .i64 t, .int .i64 q, .slice A n c, .slice B xs.length d]) := Box.new w _ [.int .i64 t, .int .i64 q, .slice A n c, .slice B xs.length d]
  have HB : Hid (Below w.heap.size w (w.alloc (.cells #[.int .i64 t, .int .i64 q, .slice A n c, .slice B xs.length d] 28))) := (Below.refl _ _).alloc (Nat.le_refl _) _
  have HM := Lib.hid (lMarkState lo q A n c os 1 _ hn hl (Nat.le_refl _) (by omega) (ho.below HB.out))
  rw [show ((1 : Nat) : Int) = 1 from rfl] at HM
  have HO := Lib.hid ho
  have HX := Lib.hid hx
  have HAP := Lib.hid hap
  have HS := Lib.hid hs
  clear ho hx hap hs hn
  go_enter Tryz.func26, Tryz.ntmps26
  go_wp2_with fail
  refine HM.out.mono ?_
  rintro e w1 ⟨rfl, ho, ht⟩
  have HT1 := Lib.hid ((Turns.of_below (P := fun b => (Value.slice A n c).ownBlock = some b) HB.out).trans ht)
  have HX1 := Lib.hid (HX.out.turns HT1.out (fun k e1 e2 => blk_apart HO.out HX.out HAP.out e2 (.inl e1)) (fun u hu k e1 e2 => blk_apart HO.out HX.out HAP.out e2 (.inr ⟨_, List.mem_map.2 ⟨u, hu, rfl⟩, e1⟩)))
  have HBX := Lib.hid (HX0.out.turns ht (fun e2 => by have := (HO.out.lt e2).2; omega))
  have HO1 := Lib.hid ho
  have hc3 := HBX.out.cell (i := 3) (v := .slice B xs.length d) rfl
  have HM2 := Lib.hid (lMarkStateS lo B xs.length d vs xs (1 + n) w1 rfl hl2 HS.out (by omega) (by omega) HX1.out HAP.out.2)
  clear ho ht HX0 HM
  go_wp2_with fail
  refine HM2.out.mono ?_
  rintro e w2 ⟨rfl, ⟨us, hus, _⟩, ht⟩
  have HF : Hid (OwnsS w2 lo (.slice A n c) (marksS 1 n) ∧ Turns (BlkT (.slice A n c) (.slice B xs.length d) vs) w w2) := ⟨HO1.out.turns ht (fun k e1 e2 => blk_apart HO.out HX.out HAP.out e1 e2), (HT1.out.weak fun k h => .inl h).trans (ht.weak fun k h => .inr h)⟩
  have HU := Lib.hid hus
  clear ht hus hc3
  go_wp2_with fail
  go_ret
  exact ⟨rfl, HF.out.1, ⟨us, HU.out⟩, HF.out.2⟩
set_option maxRecDepth 100000 in
set_option maxHeartbeats 4000000 in
theorem lHeldTalk (t q : Int) (A B : Option Addr) (n c m d : Nat) (ns : List Nat) (w : World) (hl : n ≤ 1048576) (hm : m = ns.length) (hl2 : m ≤ 1048576) (hs : ∀ x ∈ ns, x ≤ 1048576) (hA : Strs w A (marksS 1 n)) (hB : StaRow w B (marksX (1 + n) ns)) :
    Calls Tryz.prog 27 #[.agg #[.int .i64 t, .int .i64 q, .slice A n c, .slice B m d], .int .i64 1] w fun e w' => e = .returned (.int .i64 ((1 + n + cntX ns : Nat) : Int)) ∧ Below w.heap.size w w' := by
  subst hm
  have HX0 : Hid (Box (w.alloc (.cells #[.int .i64 t, .int .i64 q, .slice A n c, .slice B ns.length d] 28)) w.heap.size 28 [.int .i64 t, .int .i64 q, .slice A n c, .slice B ns.length d]) := Box.new w _ [.int .i64 t, .int .i64 q, .slice A n c, .slice B ns.length d]
  have HB0 : Hid (Below w.heap.size w (w.alloc (.cells #[.int .i64 t, .int .i64 q, .slice A n c, .slice B ns.length d] 28))) := (Below.refl _ _).alloc (Nat.le_refl _) _
  have HM := Lib.hid (lHeldState q A n c 1 _ (Nat.le_refl _) (by omega) hl (hA.below HB0.out))
  rw [show ((1 : Nat) : Int) = 1 from rfl] at HM
  have HBR := Lib.hid hB
  have HS := Lib.hid hs
  have hnn : decide (((1 + n : Nat) : Int) < 0) = false := decide_eq_false (by omega)
  have hnn2 : decide (((1 + n + cntX ns : Nat) : Int) < 0) = false := decide_eq_false (by omega)
  clear hA hB hs
  go_enter Tryz.func27, Tryz.ntmps27
  go_wp2_with fail
  refine HM.out.mono ?_
  rintro e w1 ⟨rfl, hb⟩
  have HX1 := Lib.hid (HX0.out.below hb)
  have HB1 := Lib.hid (bel_trans HB0.out hb)
  have hc3 := HX1.out.cell (i := 3) (v := .slice B ns.length d) rfl
  have HM2 := Lib.hid (lHeldStateS B ns.length d ns (1 + n) w1 rfl hl2 HS.out (by omega) (by omega) (HBR.out.below HB1.out))
  clear hb
  go_wp2_with fail
  refine HM2.out.mono ?_
  rintro e w2 ⟨rfl, hb⟩
  have HB2 := Lib.hid (bel_trans HB1.out hb)
  clear hb hc3
  go_wp2_with fail
  go_ret
  exact ⟨rfl, HB2.out⟩
end Go.Proofs.YtmdogidflaplkaaGreat

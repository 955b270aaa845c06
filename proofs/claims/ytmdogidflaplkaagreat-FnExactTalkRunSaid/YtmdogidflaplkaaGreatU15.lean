/-
  What the proofs of this seat's statements share (Shq, Spc, Spd).
-/
import Derived.Test.YtmdogidflaplkaaGreatU14
import Derived.Test.YtmdogidflaplkaaGreatU13

namespace Go.Proofs.YtmdogidflaplkaaGreat
open Go.RowKit

def IfF (t : Int) (x y : Sen) (m : Nat) (u : Nat) : Bool := !withinB (u : Int) (m : Int) || !holdsS t x (u : Int) || holdsS t y (u : Int)
theorem if_all (t : Int) (x y : Sen) (m : Nat) : holdsS t (.if_ x y) m = allTo (IfF t x y m) (m + 1) := by
  show (List.range ((m : Int).toNat + 1)).all _ = _
  rw [Int.toNat_natCast]; rfl

set_option maxRecDepth 100000 in
set_option maxHeartbeats 8000000 in
theorem sHo_and_ (t : Int) (s : ByteArray) (at_ m : Nat) (w : World) (hs : s.size ≤ 1048576) (hat : at_ < s.size) (hc : s[at_].toNat = 40) (hm : (m : Int) ≤ allOf t) (x : Sen) (l : List Nat) (hi : HoldsAt t s (at_ + 1) x (38 :: l)) (y : Sen) (e0 : Nat) (r : List Nat)
    (hi2 : ∀ a2 : Nat, a2 ≤ s.size → (bytesN s).drop a2 = l → HoldsAt t s a2 y (e0 :: r)) :
    Calls Tryz.prog 105 #[.int .i64 t, .string s, .int .i64 at_, .int .i64 m] w (SHold t s (.and_ x y) r m w) := by
  have hd : (at_ : Int) < (s.size : Int) := by omega
  have hd0 : (0 : Int) ≤ (at_ : Int) := by omega
  have HI := Lib.hid hi
  have HI2 := Lib.hid hi2
  have HM := Lib.hid hm
  obtain ⟨hx, HX⟩ : ∃ b, Hid (holdsS t x m = b) := ⟨_, rfl⟩
  obtain ⟨hy, HY⟩ : ∃ b, Hid (holdsS t y m = b) := ⟨_, rfl⟩
  clear hi hi2 hm
  cases hx
  all_goals
    go_enter Tryz.func105, Tryz.ntmps105
    go_wp2_with fail
    refine (HI.out m _ HM.out).mono ?_
    rintro e w1 ⟨a2, rfl, ha2, hd2, q, rfl⟩
    rw [HX.out]
    obtain ⟨hlt, hm2, hl⟩ := drop_lt hd2
    have HC := Lib.hid (HI2.out (a2 + 1) hlt hl)
    have hd3 : (a2 : Int) < (s.size : Int) := by omega
    have hd4 : (0 : Int) ≤ (a2 : Int) := by omega
    clear hd2 hl
    go_wp2_with fail
    refine (HC.out m _ HM.out).mono ?_
    rintro e w2 ⟨a3, rfl, ha3, hd5, q2, rfl⟩
    rw [HY.out]
    obtain ⟨hlt3, _, hl3⟩ := drop_lt hd5
    have HL := Lib.hid hl3
    clear hd5 hl3
    go_wp2_with fail
    go_ret2
    exact ⟨a3 + 1, by unfold holdsS; rw [HX.out, HY.out]; rfl, hlt3, HL.out, _, rfl⟩
set_option maxRecDepth 100000 in
set_option maxHeartbeats 8000000 in
theorem sHo_or_ (t : Int) (s : ByteArray) (at_ m : Nat) (w : World) (hs : s.size ≤ 1048576) (hat : at_ < s.size) (hc : s[at_].toNat = 40) (hm : (m : Int) ≤ allOf t) (x : Sen) (l : List Nat) (hi : HoldsAt t s (at_ + 1) x (124 :: l)) (y : Sen) (e0 : Nat) (r : List Nat)
    (hi2 : ∀ a2 : Nat, a2 ≤ s.size → (bytesN s).drop a2 = l → HoldsAt t s a2 y (e0 :: r)) :
    Calls Tryz.prog 105 #[.int .i64 t, .string s, .int .i64 at_, .int .i64 m] w (SHold t s (.or_ x y) r m w) := by
  have hd : (at_ : Int) < (s.size : Int) := by omega
  have hd0 : (0 : Int) ≤ (at_ : Int) := by omega
  have HI := Lib.hid hi
  have HI2 := Lib.hid hi2
  have HM := Lib.hid hm
  obtain ⟨hx, HX⟩ : ∃ b, Hid (holdsS t x m = b) := ⟨_, rfl⟩
  obtain ⟨hy, HY⟩ : ∃ b, Hid (holdsS t y m = b) := ⟨_, rfl⟩
  clear hi hi2 hm
  cases hx
  all_goals
    go_enter Tryz.func105, Tryz.ntmps105
    go_wp2_with fail
    refine (HI.out m _ HM.out).mono ?_
    rintro e w1 ⟨a2, rfl, ha2, hd2, q, rfl⟩
    rw [HX.out]
    obtain ⟨hlt, hm2, hl⟩ := drop_lt hd2
    have HC := Lib.hid (HI2.out (a2 + 1) hlt hl)
    have hd3 : (a2 : Int) < (s.size : Int) := by omega
    have hd4 : (0 : Int) ≤ (a2 : Int) := by omega
    clear hd2 hl
    go_wp2_with fail
    refine (HC.out m _ HM.out).mono ?_
    rintro e w2 ⟨a3, rfl, ha3, hd5, q2, rfl⟩
    rw [HY.out]
    obtain ⟨hlt3, _, hl3⟩ := drop_lt hd5
    have HL := Lib.hid hl3
    clear hd5 hl3
    go_wp2_with fail
    go_ret2
    exact ⟨a3 + 1, by unfold holdsS; rw [HX.out, HY.out]; rfl, hlt3, HL.out, _, rfl⟩

set_option maxRecDepth 100000 in
set_option maxHeartbeats 8000000 in
theorem sHo_if_ (t : Int) (s : ByteArray) (at_ m : Nat) (w : World) (hs : s.size ≤ 1048576) (hat : at_ < s.size) (hc : s[at_].toNat = 40) (hm : (m : Int) ≤ allOf t) (x : Sen) (l : List Nat) (hi : HoldsAt t s (at_ + 1) x (62 :: l)) (y : Sen) (e0 : Nat) (r : List Nat)
    (hi2 : ∀ a2 : Nat, a2 ≤ s.size → (bytesN s).drop a2 = l → HoldsAt t s a2 y (e0 :: r)) :
    Calls Tryz.prog 105 #[.int .i64 t, .string s, .int .i64 at_, .int .i64 m] w (SHold t s (.if_ x y) r m w) := by
  have hd : (at_ : Int) < (s.size : Int) := by omega
  have hd0 : (0 : Int) ≤ (at_ : Int) := by omega
  have HF := Lib.hid (if_all t x y m)
  have HI := Lib.hid hi
  have HI2 := Lib.hid hi2
  have HM := Lib.hid hm
  have hm256 : m < 256 := by have := (allOf_lt t).2; omega
  obtain ⟨F, HFF⟩ : ∃ F : Nat → Bool, Hid (IfF t x y m = F) := ⟨_, rfl⟩
  rw [HFF.out] at HF
  have HS := Lib.hid (allTo_succ F)
  clear hi hi2 hm
  go_enter Tryz.func105, Tryz.ntmps105
  go_wp2_with fail
  refine (HI.out m _ HM.out).mono ?_
  rintro e w1 ⟨a2, rfl, ha2, hd2, q, rfl⟩
  obtain ⟨bx, HBX⟩ : ∃ b, Hid (holdsS t x m = b) := ⟨_, rfl⟩
  rw [HBX.out]
  obtain ⟨hlt, hm2, hl⟩ := drop_lt hd2
  have HC := Lib.hid (HI2.out (a2 + 1) hlt hl)
  have hd3 : (a2 : Int) < (s.size : Int) := by omega
  have hd4 : (0 : Int) ≤ (a2 : Int) := by omega
  clear hd2 hl
  go_wp2_with fail
  refine (HC.out m _ HM.out).mono ?_
  rintro e w2 ⟨a3, rfl, ha3, hd5, q2, rfl⟩
  obtain ⟨bz, HBZ⟩ : ∃ b, Hid (holdsS t y m = b) := ⟨_, rfl⟩
  rw [HBZ.out]
  obtain ⟨hlt3, _, hl3⟩ := drop_lt hd5
  have HL := Lib.hid hl3
  clear hd5 hl3
  go_wp2_with fail
  go_loopw [22, 23] (fun v i wr => ∃ k : Nat, k ≤ m + 1 ∧ i = .int .i64 k ∧ v = .bool (allTo F k) ∧ ∃ q, wr = w.drewN q) (fun _ i _ => m + 1 - (Go.RowKit.intOf i).toNat)
  case atStart => exact ⟨0, Nat.zero_le _, rfl, rfl, _, rfl⟩
  case round =>
    obtain ⟨k, hk, rfl, rfl, q', rfl⟩ := hrel
    by_cases hle : k ≤ m
    · have HK := Lib.hid (HS.out k)
      have HW := Lib.hid (congrFun HFF.out k)
      have hki : (k : Int) ≤ (m : Int) := by omega
      have hka : (k : Int) ≤ allOf t := by have := HM.out; omega
      obtain ⟨y0, HY⟩ : ∃ y, Hid (allTo F k = y) := ⟨_, rfl⟩
      have HKA := Lib.hid hka
      rw [HY.out]
      clear hk hka
      rcases hw : withinB (k : Int) (m : Int) with _ | _
      · have HWI := Lib.hid hw
        clear hw
        have hnot : ∀ (x : Bool) (w : World), (Op.unary .not (.bool x)).run Tryz.prog w = .ok (.bool (!x)) w := fun _ _ => rfl
        go_wp2_with fail
        refine (sWithin_is HWI (by omega) (by omega) (by omega) (by omega) _).mono ?_
        rintro e w3 ⟨rfl, q3, rfl⟩
        go_wp2_with fail
        refine ⟨⟨k + 1, by omega, by go_num, by rw [HK.out, HY.out, ← HW.out, IfF, HWI.out]; cases y0 <;> rfl, _, rfl⟩, ?_⟩
        simp [Go.RowKit.intOf]; omega
      · have HWI := Lib.hid hw
        clear hw
        rcases hx : holdsS t x (k : Int) with _ | _
        · have HX := Lib.hid hx
          clear hx
          have hnot : ∀ (x : Bool) (w : World), (Op.unary .not (.bool x)).run Tryz.prog w = .ok (.bool (!x)) w := fun _ _ => rfl
          go_wp2_with fail
          refine (sWithin_is HWI (by omega) (by omega) (by omega) (by omega) _).mono ?_
          rintro e w3 ⟨rfl, q3, rfl⟩
          go_wp2_with fail
          refine (HI.out k _ HKA.out).mono ?_
          rintro e w4 ⟨a4, rfl, _, _, q4, rfl⟩
          rw [HX.out]
          go_wp2_with fail
          refine ⟨⟨k + 1, by omega, by go_num, by rw [HK.out, HY.out, ← HW.out, IfF, HWI.out, HX.out]; cases y0 <;> rfl, _, rfl⟩, ?_⟩
          simp [Go.RowKit.intOf]; omega
        · have HX := Lib.hid hx
          clear hx
          obtain ⟨by_, HBY⟩ : ∃ b, Hid (holdsS t y (k : Int) = b) := ⟨_, rfl⟩
          have hnot : ∀ (x : Bool) (w : World), (Op.unary .not (.bool x)).run Tryz.prog w = .ok (.bool (!x)) w := fun _ _ => rfl
          cases y0
          all_goals
            go_wp2_with fail
            refine (sWithin_is HWI (by omega) (by omega) (by omega) (by omega) _).mono ?_
            rintro e w3 ⟨rfl, q3, rfl⟩
            go_wp2_with fail
            refine (HI.out k _ HKA.out).mono ?_
            rintro e w4 ⟨a4, rfl, _, _, q4, rfl⟩
            rw [HX.out]
            go_wp2_with fail
            refine (HC.out k _ HKA.out).mono ?_
            rintro e w5 ⟨a5, rfl, _, _, q5, rfl⟩
            rw [HBY.out]
            go_wp2_with fail
            refine ⟨⟨k + 1, by omega, by go_num, by rw [HK.out, HY.out, ← HW.out, IfF, HWI.out, HX.out, HBY.out]; rfl, _, rfl⟩, ?_⟩
            simp [Go.RowKit.intOf]; omega
    · obtain rfl : k = m + 1 := by omega
      go_wp2_with fail
      go_ret2
      exact ⟨a3 + 1, by rw [HF.out]; rfl, hlt3, HL.out, _, rfl⟩
end Go.Proofs.YtmdogidflaplkaaGreat

namespace Go.Proofs.YtmdogidflaplkaaGreat
open Go.RowKit

theorem start_thing {t : Int} {c : Nat} (h : startB t c = true) (e1 : c ≠ 49) (e2 : c ≠ 48) (e3 : c ≠ 33) (e4 : c ≠ 63) (e5 : c ≠ 40) : ∃ i : Nat, c = 97 + i ∧ (i : Int) < t := by
  unfold startB at h
  simp only [Bool.or_eq_true, decide_eq_true_eq] at h
  exact ⟨c - 97, by omega, by omega⟩
theorem read_thing {t : Int} {i k : Nat} {l : List Nat} (hi : (i : Int) < t) : readS t (k + 1) ((97 + i) :: l) = some (.thing i, l) := by
  unfold readS
  rw [if_neg (by omega), if_neg (by omega), if_pos ⟨by omega, by omega⟩]
  congr 3; omega

theorem sReads (t : Int) (s : ByteArray) (hs : s.size ≤ 1048576) (h1 : 1 ≤ t) (h3 : t ≤ 3) : ∀ k, SReads t k s := by
  intro k
  induction k with
  | zero =>
    intro at_ w hle hk
    exact sRd_end t s at_ w hs (by omega)
  | succ k ih =>
    intro at_ w hle hk
    by_cases hlt : at_ < s.size
    · rw [bytesN_drop hlt]
      rcases hb : startB t s[at_].toNat with _ | _
      · rw [read_no t k _ _ hb]
        exact sRd_bad t s at_ w hs h1 h3 hlt hb
      by_cases e49 : s[at_].toNat = 49
      · rw [e49]; exact sRd_one t s at_ w hs h1 h3 hlt e49
      by_cases e48 : s[at_].toNat = 48
      · rw [e48]; exact sRd_zero t s at_ w hs hlt e48
      have hn : ∀ {x : Sen}, (issueS t x).length ≤ 70 := fun {x} => (issue_ne (sen_issue h1 h3 x)).2
      by_cases e33 : s[at_].toNat = 33
      · rw [e33, read_no33]
        rcases h : readS t k ((bytesN s).drop (at_ + 1)) with _ | ⟨x, rest⟩
        · exact sRd_no_none t s at_ w hs hlt e33 (fun W => sreads_none ih W (by omega) (by omega) h)
        · exact sRd_no t s at_ w hs hlt e33 x hn rest (fun W => sreads_some ih W (by omega) (by omega) h)
      by_cases e63 : s[at_].toNat = 63
      · rw [e63, read_ask63]
        rcases h : readS t k ((bytesN s).drop (at_ + 1)) with _ | ⟨x, rest⟩
        · exact sRd_ask_none t s at_ w hs hlt e63 (fun W => sreads_none ih W (by omega) (by omega) h)
        · exact sRd_ask t s at_ w hs hlt e63 x hn rest (fun W => sreads_some ih W (by omega) (by omega) h)
      by_cases e40 : s[at_].toNat = 40
      · rw [e40, read_pair40]
        rcases h : readS t k ((bytesN s).drop (at_ + 1)) with _ | ⟨x, _ | ⟨m, l⟩⟩
        · rw [show pairS t k ((bytesN s).drop (at_ + 1)) = none by unfold pairS; rw [h]]
          exact sRd_pair_none t s at_ w hs hlt e40 (fun W => sreads_none ih W (by omega) (by omega) h)
        · rw [show pairS t k ((bytesN s).drop (at_ + 1)) = none by unfold pairS; rw [h]]
          exact sRd_pair_mid t s at_ w hs hlt e40 x (fun W => sreads_some ih W (by omega) (by omega) h)
        · have hi : ∀ W, Calls Tryz.prog 76 #[.int .i64 t, .string s, .int .i64 ((at_ + 1 : Nat) : Int)] W (SSome t s x (m :: l) W) := fun W => sreads_some ih W (by omega) (by omega) h
          have hlen : ∀ a2 : Nat, a2 ≤ s.size → (bytesN s).drop a2 = l → s.size - a2 ≤ k := fun a2 ha hd => by
            have := readS_less t k _ _ _ h
            rw [List.length_drop, bytesN_len] at this
            have h2 : l.length = s.size - a2 := by rw [← hd, List.length_drop, bytesN_len]
            simp only [List.length_cons] at this
            omega
          rcases h2 : readS t k l with _ | ⟨y, _ | ⟨e0, r⟩⟩
          · rw [show pairS t k ((bytesN s).drop (at_ + 1)) = none by unfold pairS; rw [h]; simp only; rw [h2]]
            exact sRd_pair_snd t s at_ w hs hlt e40 x m l hi (fun a2 W ha hd => sreads_none ih W ha (hlen a2 ha hd) (by rw [hd]; exact h2))
          · rw [show pairS t k ((bytesN s).drop (at_ + 1)) = none by unfold pairS; rw [h]; simp only; rw [h2]]
            exact sRd_pair_end t s at_ w hs hlt e40 x m l hi y (fun a2 W ha hd => sreads_some ih W ha (hlen a2 ha hd) (by rw [hd]; exact h2))
          · have hi2 : ∀ (a2 : Nat) W, a2 ≤ s.size → (bytesN s).drop a2 = l → Calls Tryz.prog 76 #[.int .i64 t, .string s, .int .i64 a2] W (SSome t s y (e0 :: r) W) := fun a2 W ha hd => sreads_some ih W ha (hlen a2 ha hd) (by rw [hd]; exact h2)
            by_cases he : e0 = 41
            · subst he
              rcases hm : (decide (m = 38) || decide (m = 124) || decide (m = 62)) with _ | _
              · rw [show pairS t k ((bytesN s).drop (at_ + 1)) = none by unfold pairS; rw [h]; simp only; rw [h2]; simp only [if_true]; rw [twoS_none hm]; rfl]
                exact sRd_pair_sign t s at_ w hs hlt e40 x m l hi y r hm hi2
              · have hm3 : m = 38 ∨ m = 124 ∨ m = 62 := by simpa [or_assoc] using hm
                rcases hm3 with rfl | rfl | rfl
                · rw [show pairS t k ((bytesN s).drop (at_ + 1)) = some (.and_ x y, r) by unfold pairS; rw [h]; simp only; rw [h2]; rfl]
                  exact sRd_pair_and_ t s at_ w hs hlt e40 x l hi y r hn hn hi2
                · rw [show pairS t k ((bytesN s).drop (at_ + 1)) = some (.or_ x y, r) by unfold pairS; rw [h]; simp only; rw [h2]; rfl]
                  exact sRd_pair_or_ t s at_ w hs hlt e40 x l hi y r hn hn hi2
                · rw [show pairS t k ((bytesN s).drop (at_ + 1)) = some (.if_ x y, r) by unfold pairS; rw [h]; simp only; rw [h2]; rfl]
                  exact sRd_pair_if_ t s at_ w hs hlt e40 x l hi y r hn hn hi2
            · rw [show pairS t k ((bytesN s).drop (at_ + 1)) = none by unfold pairS; rw [h]; simp only; rw [h2]; simp only; rw [if_neg he]]
              exact sRd_pair_open t s at_ w hs hlt e40 x m l hi y e0 r he hi2
      · obtain ⟨i, hi, hit⟩ := start_thing hb e49 e48 e33 e63 e40
        rw [hi, read_thing hit]
        refine (sRd_letter t s at_ w hs hlt i hi h1 h3 hit).mono ?_
        rintro e w' ⟨v, rfl, ho, hb2⟩
        rw [word_thing h1 h3 hit] at ho
        exact ⟨v, at_ + 1, rfl, hlt, rfl, ho, hb2⟩
    · rw [List.drop_eq_nil_of_le (by rw [bytesN_len]; omega), read_empty]
      exact sRd_end t s at_ w hs (by omega)

theorem sHolds (t : Int) (s : ByteArray) (hs : s.size ≤ 1048576) (h1 : 1 ≤ t) (h3 : t ≤ 3) : ∀ (k at_ : Nat) (x : Sen) (rest : List Nat), readS t k ((bytesN s).drop at_) = some (x, rest) → HoldsAt t s at_ x rest := by
  intro k
  induction k with
  | zero => intro at_ x rest h; cases h
  | succ k ih =>
    intro at_ x rest h m W hm
    by_cases hlt : at_ < s.size
    · rw [bytesN_drop hlt] at h
      rcases hb : startB t s[at_].toNat with _ | _
      · rw [read_no t k _ _ hb] at h; cases h
      by_cases e49 : s[at_].toNat = 49
      · rw [e49] at h; cases h
        exact sHo_one t s at_ m W hs hlt e49
      by_cases e48 : s[at_].toNat = 48
      · rw [e48] at h; cases h
        exact sHo_zero t s at_ m W hs hlt e48
      by_cases e33 : s[at_].toNat = 33
      · rw [e33, read_no33] at h
        obtain ⟨⟨y, r⟩, hy, e⟩ := Option.map_eq_some_iff.1 h
        cases e
        exact sHo_no t s at_ m W hs hlt e33 h1 h3 hm y r (ih _ _ _ hy)
      by_cases e63 : s[at_].toNat = 63
      · rw [e63, read_ask63] at h
        obtain ⟨⟨y, r⟩, hy, e⟩ := Option.map_eq_some_iff.1 h
        cases e
        exact sHo_ask t s at_ m W hs hlt e63 h1 h3 hm y r (ih _ _ _ hy)
      by_cases e40 : s[at_].toNat = 40
      · rw [e40, read_pair40] at h
        unfold pairS at h
        split at h
        · rename_i x1 m1 l2 hx1
          split at h
          · rename_i y1 e0 r1 hy1
            split at h
            · obtain ⟨z, hz, e⟩ := Option.map_eq_some_iff.1 h
              cases e
              have hi2 : ∀ a2 : Nat, a2 ≤ s.size → (bytesN s).drop a2 = l2 → HoldsAt t s a2 y1 (e0 :: rest) := fun a2 _ hd => ih a2 _ _ (by rw [hd]; exact hy1)
              unfold twoS at hz
              split at hz
              · cases hz; rename_i hm1; subst hm1
                exact sHo_and_ t s at_ m W hs hlt e40 hm x1 l2 (ih _ _ _ hx1) y1 e0 rest hi2
              split at hz
              · cases hz; rename_i hm1; subst hm1
                exact sHo_or_ t s at_ m W hs hlt e40 hm x1 l2 (ih _ _ _ hx1) y1 e0 rest hi2
              split at hz
              · cases hz; rename_i hm1; subst hm1
                exact sHo_if_ t s at_ m W hs hlt e40 hm x1 l2 (ih _ _ _ hx1) y1 e0 rest hi2
              · cases hz
            · cases h
          · cases h
        · cases h
      · obtain ⟨i, hi, hit⟩ := start_thing hb e49 e48 e33 e63 e40
        rw [hi, read_thing hit] at h
        cases h
        exact sHo_thing t s at_ m W hs i hlt hi h1 h3 hit hm
    · rw [List.drop_eq_nil_of_le (by rw [bytesN_len]; omega), read_empty] at h
      cases h
end Go.Proofs.YtmdogidflaplkaaGreat

namespace Go.Proofs.YtmdogidflaplkaaGreat
open Go.RowKit

theorem senT_bad {t : Int} {s : ByteArray} (h : t < 1 ∨ 3 < t ∨ 60 < s.size) : senT t s = none := by
  unfold senT senOf; rw [if_neg (by rw [bytesN_len]; omega)]
theorem senT_none {t : Int} {s : ByteArray} (h1 : 1 ≤ t) (h3 : t ≤ 3) (hl : s.size ≤ 60) (h : readS t s.size (bytesN s) = none) : senT t s = none :=
  senOf_none h1 h3 (by rw [bytesN_len]; exact hl) (by rw [bytesN_len]; exact h)
theorem senT_more {t : Int} {s : ByteArray} {x : Sen} {c : Nat} {r : List Nat} (h1 : 1 ≤ t) (h3 : t ≤ 3) (hl : s.size ≤ 60) (h : readS t s.size (bytesN s) = some (x, c :: r)) : senT t s = none :=
  senOf_more h1 h3 (by rw [bytesN_len]; exact hl) (by rw [bytesN_len]; exact h)
theorem senT_some {t : Int} {s : ByteArray} {x : Sen} (h1 : 1 ≤ t) (h3 : t ≤ 3) (hl : s.size ≤ 60) (h : readS t s.size (bytesN s) = some (x, [])) : senT t s = some x :=
  senOf_some h1 h3 (by rw [bytesN_len]; exact hl) (by rw [bytesN_len]; exact h)
theorem read_of_sen {t : Int} {s : ByteArray} {x : Sen} (h : senT t s = some x) : readS t s.size (bytesN s) = some (x, []) := by
  obtain ⟨h1, h3, hl, hok, ht⟩ := senT_ok h
  rcases hr : readS t s.size (bytesN s) with _ | ⟨y, _ | ⟨c, r⟩⟩
  · rw [senT_none h1 h3 hl hr] at h; cases h
  · rw [senT_some h1 h3 hl hr] at h; cases h; rfl
  · rw [senT_more h1 h3 hl hr] at h; cases h
theorem sRead_some {t : Int} {s : ByteArray} {x : Sen} (h : senT t s = some x) (w : World) : Calls Tryz.prog 76 #[.int .i64 t, .string s, .int .i64 0] w (SSome t s x [] w) := by
  obtain ⟨h1, h3, hl, hok, ht⟩ := senT_ok h
  have := sReads t s (by omega) h1 h3 s.size 0 w (by omega) (by omega)
  rw [List.drop_zero, read_of_sen h] at this
  exact this
theorem sHolds_some {t : Int} {s : ByteArray} {x : Sen} (h : senT t s = some x) (m : Nat) (hm : (m : Int) ≤ allOf t) (w : World) : Calls Tryz.prog 105 #[.int .i64 t, .string s, .int .i64 0, .int .i64 m] w (SHold t s x [] m w) := by
  obtain ⟨h1, h3, hl, hok, ht⟩ := senT_ok h
  exact sHolds t s (by omega) h1 h3 s.size 0 x [] (by rw [List.drop_zero]; exact read_of_sen h) m w hm

set_option maxRecDepth 100000 in
set_option maxHeartbeats 4000000 in
theorem sSentence (t : Int) (s : ByteArray) (w : World) (hs : s.size ≤ 9223372036854775807) :
    Calls Tryz.prog 40 #[.int .i64 t, .string s] w fun e w' => e = .returned (.bool (isT t s)) ∧ Below w.heap.size w w' := by
  have hnot : ∀ (x : Bool) (w : World), (Op.unary .not (.bool x)).run Tryz.prog w = .ok (.bool (!x)) w := fun _ _ => rfl
  by_cases ht : t < 1 ∨ 3 < t
  · rw [show isT t s = false by unfold isT; rw [senT_bad (by omega)]; rfl]
    go_enter Tryz.func40, Tryz.ntmps40
    go_wp2_with fail
    refine (sIn_no _ _ _ _ ht).mono ?_
    rintro e w' ⟨rfl, rfl⟩
    go_wp2_with fail
    go_ret
    exact ⟨rfl, Below.refl _ _⟩
  by_cases hl : 60 < s.size
  · rw [show isT t s = false by unfold isT; rw [senT_bad (by omega)]; rfl]
    have hd : decide ((60 : Int) < (s.size : Int)) = true := decide_eq_true (by omega)
    go_enter Tryz.func40, Tryz.ntmps40
    go_wp2_with fail
    refine (sIn_yes _ _ _ _ (by omega) (by omega)).mono ?_
    rintro e w' ⟨rfl, rfl⟩
    go_wp2_with fail
    go_ret
    exact ⟨rfl, Below.refl _ _⟩
  have h1 : 1 ≤ t := by omega
  have h3 : t ≤ 3 := by omega
  have hd : decide ((60 : Int) < (s.size : Int)) = false := decide_eq_false (by omega)
  have hr := sReads t s (by omega) h1 h3 s.size 0
  rcases hrd : readS t s.size (bytesN s) with _ | ⟨x, rest⟩
  · have HI : Hid (∀ W, Calls Tryz.prog 76 #[.int .i64 t, .string s, .int .i64 0] W (SNone W)) := fun W => by
      have := hr W (by omega) (by omega)
      rw [List.drop_zero, hrd] at this; exact this
    rw [show isT t s = false by unfold isT; rw [senT_none h1 h3 (by omega) hrd]; rfl]
    have he : ((-1 : Int) == (s.size : Int)) = false := by rw [beq_eq_false_iff_ne]; omega
    clear hr hrd ht hl
    go_enter Tryz.func40, Tryz.ntmps40
    go_wp2_with fail
    refine (sIn_yes _ _ _ _ (by omega) (by omega)).mono ?_
    rintro e w' ⟨rfl, rfl⟩
    go_wp2_with fail
    refine (HI.out _).mono ?_
    rintro e w1 ⟨A, n, c, rfl, hb⟩
    have HB := Lib.hid hb
    clear hb
    go_wp2_with fail
    go_ret
    exact ⟨rfl, HB.out⟩
  · have HI : Hid (∀ W, Calls Tryz.prog 76 #[.int .i64 t, .string s, .int .i64 0] W (SSome t s x rest W)) := fun W => by
      have := hr W (by omega) (by omega)
      rw [List.drop_zero, hrd] at this; exact this
    have hv : isT t s = decide (rest = []) := by
      rcases rest with _ | ⟨c, r⟩
      · unfold isT; rw [senT_some h1 h3 (by omega) hrd]; rfl
      · unfold isT; rw [senT_more h1 h3 (by omega) hrd]; rfl
    have HV := Lib.hid hv
    clear hr hrd ht hl hv
    go_enter Tryz.func40, Tryz.ntmps40
    go_wp2_with fail
    refine (sIn_yes _ _ _ _ (by omega) (by omega)).mono ?_
    rintro e w' ⟨rfl, rfl⟩
    go_wp2_with fail
    refine (HI.out _).mono ?_
    rintro e w1 ⟨v, a2, rfl, ha2, hd2, ho, hb⟩
    obtain ⟨A1, c1, rfl, _, _, _, _⟩ := ho.form
    have HB := Lib.hid hb
    have HE : Hid (((a2 : Int) == (s.size : Int)) = isT t s) := by
      unfold Hid
      rw [HV.out, Bool.eq_iff_iff, beq_iff_eq, decide_eq_true_eq]
      constructor
      · intro h
        rw [← hd2]
        exact List.drop_eq_nil_of_le (by rw [bytesN_len]; omega)
      · intro h
        rw [h] at hd2
        have := drop_end hd2 ha2
        omega
    clear hb ho hd2
    go_wp2_with fail
    go_ret
    exact ⟨ret_bool HE.out, HB.out⟩
theorem sSentence_is {t : Int} {s : ByteArray} {b : Bool} (h : Hid (isT t s = b)) (w : World) (hs : s.size ≤ 9223372036854775807) :
    Calls Tryz.prog 40 #[.int .i64 t, .string s] w fun e w' => e = .returned (.bool b) ∧ Below w.heap.size w w' :=
  (sSentence t s w hs).mono fun _ _ ⟨he, hw⟩ => ⟨he.trans (ret_bool h.out), hw⟩
theorem isT_none {t : Int} {s : ByteArray} (h : senT t s = none) : isT t s = false := (issueT_none h).2
theorem isT_some {t : Int} {s : ByteArray} {x : Sen} (h : senT t s = some x) : isT t s = true := (issueT_some h).2

set_option maxRecDepth 100000 in
set_option maxHeartbeats 4000000 in
theorem sSupportsT (t k : Int) (s : ByteArray) (w : World) (hs : s.size ≤ 9223372036854775807) :
    Calls Tryz.prog 77 #[.int .i64 t, .int .i64 k, .string s] w fun e w' => e = .returned (.bool (supportsT t k s)) ∧ Below w.heap.size w w' := by
  have hnot : ∀ (x : Bool) (w : World), (Op.unary .not (.bool x)).run Tryz.prog w = .ok (.bool (!x)) w := fun _ _ => rfl
  rcases hset : setOkB t k with _ | _
  · have HS := Lib.hid hset
    rw [show supportsT t k s = false by unfold supportsT; rw [hset]; cases senT t s <;> rfl]
    clear hset
    go_enter Tryz.func77, Tryz.ntmps77
    go_wp2_with fail
    refine (sSetOk _ _ _).mono ?_
    rintro e w' ⟨rfl, rfl⟩
    rw [HS.out]
    go_wp2_with fail
    go_ret
    exact ⟨rfl, Below.refl _ _⟩
  · have HS := Lib.hid hset
    obtain ⟨_, _, hk0, hka, _⟩ := setOkB_lt hset
    rcases hx : senT t s with _ | x
    · have HT := Lib.hid (isT_none hx)
      rw [show supportsT t k s = false by unfold supportsT; rw [hx]]
      clear hset hx
      go_enter Tryz.func77, Tryz.ntmps77
      go_wp2_with fail
      refine (sSetOk _ _ _).mono ?_
      rintro e w' ⟨rfl, rfl⟩
      rw [HS.out]
      go_wp2_with fail
      refine (sSentence_is HT _ hs).mono ?_
      rintro e w1 ⟨rfl, hb⟩
      have HB := Lib.hid hb
      clear hb
      go_wp2_with fail
      go_ret
      exact ⟨rfl, HB.out⟩
    · have HX := Lib.hid hx
      have HT := Lib.hid (isT_some hx)
      rw [show supportsT t k s = holdsS t x k by unfold supportsT; rw [hx, hset]; rfl]
      obtain ⟨m, rfl⟩ : ∃ m : Nat, k = m := ⟨k.toNat, by omega⟩
      clear hset hx
      go_enter Tryz.func77, Tryz.ntmps77
      go_wp2_with fail
      refine (sSetOk _ _ _).mono ?_
      rintro e w' ⟨rfl, rfl⟩
      rw [HS.out]
      go_wp2_with fail
      refine (sSentence_is HT _ hs).mono ?_
      rintro e w1 ⟨rfl, hb⟩
      have HB := Lib.hid hb
      clear hb
      go_wp2_with fail
      refine (sHolds_some HX.out m hka _).mono ?_
      rintro e w2 ⟨a2, rfl, _, _, q, rfl⟩
      go_wp2_with fail
      go_ret
      exact ⟨rfl, bel_drewN HB.out _⟩

theorem sSupports_is {t k : Int} {s : ByteArray} {b : Bool} (h : Hid (supportsT t k s = b)) (w : World) (hs : s.size ≤ 9223372036854775807) :
    Calls Tryz.prog 77 #[.int .i64 t, .int .i64 k, .string s] w fun e w' => e = .returned (.bool b) ∧ Below w.heap.size w w' :=
  (sSupportsT t k s w hs).mono fun _ _ ⟨he, hw⟩ => ⟨he.trans (ret_bool h.out), hw⟩
theorem supports_world {t : Int} {s : ByteArray} {x : Sen} {k : Nat} (h : senT t s = some x) (hk : k < nWorlds t) : supportsT t ((2 ^ k : Nat) : Int) s = holdsS t x (worldS k) := by
  obtain ⟨h1, h3, _⟩ := senT_ok h
  have := world_ok h1 h3 hk
  unfold supportsT
  rw [h]
  show (setOkB t (worldS k) && _) = _
  rw [setOk_of h1 h3 this.1 this.2]; rfl
theorem true_add {t : Int} {x : Sen} {k : Nat} (h : holdsS t x (worldS k) = true) : trueTo t x k + 2 ^ k = trueTo t x (k + 1) := by
  conv => rhs; unfold trueTo
  rw [if_pos h]

set_option maxRecDepth 100000 in
set_option maxHeartbeats 8000000 in
theorem sTrueIn (t : Int) (s : ByteArray) (w : World) (hs : s.size ≤ 9223372036854775807) :
    Calls Tryz.prog 42 #[.int .i64 t, .string s] w fun e w' => e = .returned (.int .i64 (trueT t s)) ∧ Below w.heap.size w w' := by
  have hnot : ∀ (x : Bool) (w : World), (Op.unary .not (.bool x)).run Tryz.prog w = .ok (.bool (!x)) w := fun _ _ => rfl
  rcases hx : senT t s with _ | x
  · have HT := Lib.hid (isT_none hx)
    rw [show trueT t s = -1 by unfold trueT; rw [hx]]
    clear hx
    go_enter Tryz.func42, Tryz.ntmps42
    go_wp2_with fail
    refine (sSentence_is HT _ hs).mono ?_
    rintro e w1 ⟨rfl, hb⟩
    have HB := Lib.hid hb
    clear hb
    go_wp2_with fail
    go_ret
    exact ⟨rfl, HB.out⟩
  · have HT := Lib.hid (isT_some hx)
    obtain ⟨h1, h3, _⟩ := senT_ok hx
    have HF : Hid (trueT t s = (trueTo t x (nWorlds t) : Int)) := by unfold Hid trueT; rw [hx]
    have HX := Lib.hid hx
    have h : t = 1 ∨ t = 2 ∨ t = 3 := by omega
    clear hx h1 h3
    rcases h with rfl | rfl | rfl
    · go_enter Tryz.func42, Tryz.ntmps42
      go_wp2_with fail
      refine (sSentence_is HT _ hs).mono ?_
      rintro e w1 ⟨rfl, hb⟩
      have HB := Lib.hid hb
      clear hb
      go_wp2_with fail
      go_loopw [5, 6] (fun v i wr => ∃ k : Nat, k ≤ 2 ∧ i = .int .i64 k ∧ v = .int .i64 (trueTo 1 x k) ∧ Below w1.heap.size w1 wr) (fun _ i _ => 2 - (Go.RowKit.intOf i).toNat)
      case atStart => exact ⟨0, Nat.zero_le _, rfl, rfl, Below.refl _ _⟩
      case round =>
        obtain ⟨k, hk, rfl, rfl, hbr⟩ := hrel
        have HBR := Lib.hid hbr
        clear hbr
        by_cases hlt : k < 2
        · have hsup := supports_world HX.out (k := k) hlt
          have htl := trueTo_lt 1 x k (by omega)
          have hp : 2 ^ k ≤ 2 ^ 7 := Nat.pow_le_pow_right (by omega) (by omega)
          have HWP := Lib.hid (wrap_pow (k := k) (by omega))
          obtain ⟨p, HP⟩ : ∃ p : Nat, Hid (2 ^ k = p) := ⟨_, rfl⟩
          obtain ⟨tv, HTV⟩ : ∃ tv : Nat, Hid (trueTo 1 x k = tv) := ⟨_, rfl⟩
          rw [HP.out] at hsup htl hp HWP
          rw [HTV.out] at htl ⊢
          rcases hh : holdsS 1 x (worldS k) with _ | _
          · rw [hh] at hsup
            have HS := Lib.hid (true_skip hh)
            have HSU := Lib.hid hsup
            clear hk hh hsup
            go_wp2_with fail
            rw [HWP.out]
            refine (sSupports_is HSU _ hs).mono ?_
            rintro e w2 ⟨rfl, hb⟩
            have HB2 := Lib.hid (bel_trans HBR.out hb)
            clear hb
            go_wp2_with fail
            refine ⟨⟨k + 1, by omega, by go_num, by rw [← HS.out, HTV.out], HB2.out⟩, ?_⟩
            simp [Go.RowKit.intOf]; omega
          · rw [hh] at hsup
            have HS := Lib.hid (true_add hh)
            have HSU := Lib.hid hsup
            clear hk hh hsup
            go_wp2_with fail
            rw [HWP.out]
            refine (sSupports_is HSU _ hs).mono ?_
            rintro e w2 ⟨rfl, hb⟩
            have HB2 := Lib.hid (bel_trans HBR.out hb)
            clear hb
            go_wp2_with fail
            try rw [HWP.out]
            refine ⟨⟨k + 1, by omega, by go_num, ?_, HB2.out⟩, ?_⟩
            · rw [← HS.out, HTV.out, HP.out]
              first | rw [IntWalk.wrap64_in _ ⟨by omega, by omega⟩]; rfl | rfl
            · simp [Go.RowKit.intOf]; omega
        · obtain rfl : k = 2 := by omega
          have HB2 := Lib.hid (bel_trans HB.out HBR.out)
          go_wp2_with fail
          go_ret
          exact ⟨ret_int (by rw [HF.out]; rfl), HB2.out⟩
    · go_enter Tryz.func42, Tryz.ntmps42
      go_wp2_with fail
      refine (sSentence_is HT _ hs).mono ?_
      rintro e w1 ⟨rfl, hb⟩
      have HB := Lib.hid hb
      clear hb
      go_wp2_with fail
      go_loopw [5, 6] (fun v i wr => ∃ k : Nat, k ≤ 4 ∧ i = .int .i64 k ∧ v = .int .i64 (trueTo 2 x k) ∧ Below w1.heap.size w1 wr) (fun _ i _ => 4 - (Go.RowKit.intOf i).toNat)
      case atStart => exact ⟨0, Nat.zero_le _, rfl, rfl, Below.refl _ _⟩
      case round =>
        obtain ⟨k, hk, rfl, rfl, hbr⟩ := hrel
        have HBR := Lib.hid hbr
        clear hbr
        by_cases hlt : k < 4
        · have hsup := supports_world HX.out (k := k) hlt
          have htl := trueTo_lt 2 x k (by omega)
          have hp : 2 ^ k ≤ 2 ^ 7 := Nat.pow_le_pow_right (by omega) (by omega)
          have HWP := Lib.hid (wrap_pow (k := k) (by omega))
          obtain ⟨p, HP⟩ : ∃ p : Nat, Hid (2 ^ k = p) := ⟨_, rfl⟩
          obtain ⟨tv, HTV⟩ : ∃ tv : Nat, Hid (trueTo 2 x k = tv) := ⟨_, rfl⟩
          rw [HP.out] at hsup htl hp HWP
          rw [HTV.out] at htl ⊢
          rcases hh : holdsS 2 x (worldS k) with _ | _
          · rw [hh] at hsup
            have HS := Lib.hid (true_skip hh)
            have HSU := Lib.hid hsup
            clear hk hh hsup
            go_wp2_with fail
            rw [HWP.out]
            refine (sSupports_is HSU _ hs).mono ?_
            rintro e w2 ⟨rfl, hb⟩
            have HB2 := Lib.hid (bel_trans HBR.out hb)
            clear hb
            go_wp2_with fail
            refine ⟨⟨k + 1, by omega, by go_num, by rw [← HS.out, HTV.out], HB2.out⟩, ?_⟩
            simp [Go.RowKit.intOf]; omega
          · rw [hh] at hsup
            have HS := Lib.hid (true_add hh)
            have HSU := Lib.hid hsup
            clear hk hh hsup
            go_wp2_with fail
            rw [HWP.out]
            refine (sSupports_is HSU _ hs).mono ?_
            rintro e w2 ⟨rfl, hb⟩
            have HB2 := Lib.hid (bel_trans HBR.out hb)
            clear hb
            go_wp2_with fail
            try rw [HWP.out]
            refine ⟨⟨k + 1, by omega, by go_num, ?_, HB2.out⟩, ?_⟩
            · rw [← HS.out, HTV.out, HP.out]
              first | rw [IntWalk.wrap64_in _ ⟨by omega, by omega⟩]; rfl | rfl
            · simp [Go.RowKit.intOf]; omega
        · obtain rfl : k = 4 := by omega
          have HB2 := Lib.hid (bel_trans HB.out HBR.out)
          go_wp2_with fail
          go_ret
          exact ⟨ret_int (by rw [HF.out]; rfl), HB2.out⟩
    · go_enter Tryz.func42, Tryz.ntmps42
      go_wp2_with fail
      refine (sSentence_is HT _ hs).mono ?_
      rintro e w1 ⟨rfl, hb⟩
      have HB := Lib.hid hb
      clear hb
      go_wp2_with fail
      go_loopw [5, 6] (fun v i wr => ∃ k : Nat, k ≤ 8 ∧ i = .int .i64 k ∧ v = .int .i64 (trueTo 3 x k) ∧ Below w1.heap.size w1 wr) (fun _ i _ => 8 - (Go.RowKit.intOf i).toNat)
      case atStart => exact ⟨0, Nat.zero_le _, rfl, rfl, Below.refl _ _⟩
      case round =>
        obtain ⟨k, hk, rfl, rfl, hbr⟩ := hrel
        have HBR := Lib.hid hbr
        clear hbr
        by_cases hlt : k < 8
        · have hsup := supports_world HX.out (k := k) hlt
          have htl := trueTo_lt 3 x k (by omega)
          have hp : 2 ^ k ≤ 2 ^ 7 := Nat.pow_le_pow_right (by omega) (by omega)
          have HWP := Lib.hid (wrap_pow (k := k) (by omega))
          obtain ⟨p, HP⟩ : ∃ p : Nat, Hid (2 ^ k = p) := ⟨_, rfl⟩
          obtain ⟨tv, HTV⟩ : ∃ tv : Nat, Hid (trueTo 3 x k = tv) := ⟨_, rfl⟩
          rw [HP.out] at hsup htl hp HWP
          rw [HTV.out] at htl ⊢
          rcases hh : holdsS 3 x (worldS k) with _ | _
          · rw [hh] at hsup
            have HS := Lib.hid (true_skip hh)
            have HSU := Lib.hid hsup
            clear hk hh hsup
            go_wp2_with fail
            rw [HWP.out]
            refine (sSupports_is HSU _ hs).mono ?_
            rintro e w2 ⟨rfl, hb⟩
            have HB2 := Lib.hid (bel_trans HBR.out hb)
            clear hb
            go_wp2_with fail
            refine ⟨⟨k + 1, by omega, by go_num, by rw [← HS.out, HTV.out], HB2.out⟩, ?_⟩
            simp [Go.RowKit.intOf]; omega
          · rw [hh] at hsup
            have HS := Lib.hid (true_add hh)
            have HSU := Lib.hid hsup
            clear hk hh hsup
            go_wp2_with fail
            rw [HWP.out]
            refine (sSupports_is HSU _ hs).mono ?_
            rintro e w2 ⟨rfl, hb⟩
            have HB2 := Lib.hid (bel_trans HBR.out hb)
            clear hb
            go_wp2_with fail
            try rw [HWP.out]
            refine ⟨⟨k + 1, by omega, by go_num, ?_, HB2.out⟩, ?_⟩
            · rw [← HS.out, HTV.out, HP.out]
              first | rw [IntWalk.wrap64_in _ ⟨by omega, by omega⟩]; rfl | rfl
            · simp [Go.RowKit.intOf]; omega
        · obtain rfl : k = 8 := by omega
          have HB2 := Lib.hid (bel_trans HB.out HBR.out)
          go_wp2_with fail
          go_ret
          exact ⟨ret_int (by rw [HF.out]; rfl), HB2.out⟩

end Go.Proofs.YtmdogidflaplkaaGreat

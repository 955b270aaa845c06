/-
  What the proofs of this seat's statements share (Srd, Sre, Srf, Srg).
-/
import Derived.Test.YtmdogidflaplkaaGreatU12

namespace Go.Proofs.YtmdogidflaplkaaGreat
open Go.RowKit

def SNone (w : World) (e : Ending) (w' : World) : Prop := ∃ A n c, e = .returned (.tuple #[.slice A n c, .bool false, .int .i64 (-1)]) ∧ Below w.heap.size w w'
def SSome (t : Int) (s : ByteArray) (x : Sen) (rest : List Nat) (w : World) (e : Ending) (w' : World) : Prop :=
  ∃ v, ∃ a2 : Nat, e = .returned (.tuple #[v, .bool (plainS x), .int .i64 a2]) ∧ a2 ≤ s.size ∧ (bytesN s).drop a2 = rest ∧ Owns w' w.heap.size v (issueS t x) ∧ Below w.heap.size w w'
def SRead (t : Int) (s : ByteArray) (o : Option (Sen × List Nat)) (w : World) (e : Ending) (w' : World) : Prop :=
  match o with
  | some (x, rest) => SSome t s x rest w e w'
  | none => SNone w e w'
def SReads (t : Int) (k : Nat) (s : ByteArray) : Prop := ∀ (at_ : Nat) (w : World), at_ ≤ s.size → s.size - at_ ≤ k →
  Calls Tryz.prog 76 #[.int .i64 t, .string s, .int .i64 at_] w (SRead t s (readS t k ((bytesN s).drop at_)) w)
def OwnPost3 (g at_ : Nat) (w : World) (e : Ending) (w' : World) : Prop := ∃ v, e = .returned (.tuple #[v, .bool true, .int .i64 ((at_ + 1 : Nat) : Int)]) ∧ Owns w' w.heap.size v [(g : Int)] ∧ Below w.heap.size w w'
theorem sreads_none {t : Int} {k : Nat} {s : ByteArray} (ih : SReads t k s) {at_ : Nat} (w : World) (hle : at_ ≤ s.size) (hk : s.size - at_ ≤ k) (h : readS t k ((bytesN s).drop at_) = none) :
    Calls Tryz.prog 76 #[.int .i64 t, .string s, .int .i64 at_] w (SNone w) := by
  have := ih at_ w hle hk
  rw [h] at this; exact this
theorem sreads_some {t : Int} {k : Nat} {s : ByteArray} (ih : SReads t k s) {at_ : Nat} (w : World) (hle : at_ ≤ s.size) (hk : s.size - at_ ≤ k) {x : Sen} {rest : List Nat} (h : readS t k ((bytesN s).drop at_) = some (x, rest)) :
    Calls Tryz.prog 76 #[.int .i64 t, .string s, .int .i64 at_] w (SSome t s x rest w) := by
  have := ih at_ w hle hk
  rw [h] at this; exact this


set_option maxRecDepth 100000 in
set_option maxHeartbeats 4000000 in
theorem sRd_end (t : Int) (s : ByteArray) (at_ : Nat) (w : World) (_hs : s.size ≤ 1048576) (hat : s.size ≤ at_) : Calls Tryz.prog 76 #[.int .i64 t, .string s, .int .i64 at_] w (SNone w) := by
  have hd : (s.size : Int) ≤ (at_ : Int) := by omega
  go_enter Tryz.func76, Tryz.ntmps76
  go_wp2_with fail
  go_ret3
  exact ⟨_, _, _, rfl, (Below.refl _ _).alloc (Nat.le_refl _) _⟩

set_option maxRecDepth 100000 in
set_option maxHeartbeats 4000000 in
theorem sRd_one (t : Int) (s : ByteArray) (at_ : Nat) (w : World) (hs : s.size ≤ 1048576) (h1 : 1 ≤ t) (h3 : t ≤ 3) (hat : at_ < s.size) (hc : s[at_].toNat = 49) : Calls Tryz.prog 76 #[.int .i64 t, .string s, .int .i64 at_] w (SSome t s .one ((bytesN s).drop (at_ + 1)) w) := by
  have hd : (at_ : Int) < (s.size : Int) := by omega
  have hd0 : (0 : Int) ≤ (at_ : Int) := by omega
  go_enter Tryz.func76, Tryz.ntmps76
  go_wp2_with (go_at_call 93; refine (sAll t _ h1 h3).mono ?_; rintro e w' ⟨rfl, rfl⟩)
  go_ret3
  exact ⟨_, at_ + 1, rfl, hat, rfl, Owns.lit _ _ [allOf t] (Nat.le_refl _) (by simp [maxLen]), (Below.refl _ _).alloc (Nat.le_refl _) _⟩

set_option maxRecDepth 100000 in
set_option maxHeartbeats 4000000 in
theorem sRd_zero (t : Int) (s : ByteArray) (at_ : Nat) (w : World) (hs : s.size ≤ 1048576) (hat : at_ < s.size) (hc : s[at_].toNat = 48) : Calls Tryz.prog 76 #[.int .i64 t, .string s, .int .i64 at_] w (SSome t s .zero ((bytesN s).drop (at_ + 1)) w) := by
  have hd : (at_ : Int) < (s.size : Int) := by omega
  have hd0 : (0 : Int) ≤ (at_ : Int) := by omega
  go_enter Tryz.func76, Tryz.ntmps76
  go_wp2_with fail
  go_ret3
  exact ⟨_, at_ + 1, rfl, hat, rfl, Owns.lit _ _ [0] (Nat.le_refl _) (by simp [maxLen]), (Below.refl _ _).alloc (Nat.le_refl _) _⟩

set_option maxRecDepth 100000 in
set_option maxHeartbeats 4000000 in
theorem sRd_bad (t : Int) (s : ByteArray) (at_ : Nat) (w : World) (_hs : s.size ≤ 1048576) (h1 : 1 ≤ t) (h3 : t ≤ 3) (hat : at_ < s.size) (hb : startB t s[at_].toNat = false) : Calls Tryz.prog 76 #[.int .i64 t, .string s, .int .i64 at_] w (SNone w) := by
  have hd : (at_ : Int) < (s.size : Int) := by omega
  have hd0 : (0 : Int) ≤ (at_ : Int) := by omega
  obtain ⟨c, hc⟩ : ∃ c, s[at_].toNat = c := ⟨_, rfl⟩
  have hc256 : c < 256 := by rw [← hc]; exact UInt8.toNat_lt _
  rw [hc] at hb
  unfold startB at hb
  simp only [Bool.or_eq_false_iff, decide_eq_false_iff_not] at hb
  have e49 : ((c : Int) == 49) = false := by rw [beq_eq_false_iff_ne]; omega
  have e48 : ((c : Int) == 48) = false := by rw [beq_eq_false_iff_ne]; omega
  have e33 : ((c : Int) == 33) = false := by rw [beq_eq_false_iff_ne]; omega
  have e63 : ((c : Int) == 63) = false := by rw [beq_eq_false_iff_ne]; omega
  have e40 : ((c : Int) == 40) = false := by rw [beq_eq_false_iff_ne]; omega
  by_cases h97 : 97 ≤ c
  · have h97i : (97 : Int) ≤ (c : Int) := by omega
    have ht : t ≤ (c : Int) - 97 := by omega
    have hdt : decide ((c : Int) - 97 < t) = false := decide_eq_false (by omega)
    clear hb
    go_enter Tryz.func76, Tryz.ntmps76
    go_wp2_with fail
    go_ret3
    exact ⟨_, _, _, rfl, (Below.refl _ _).alloc (Nat.le_refl _) _⟩
  · have h97i : decide ((97 : Int) ≤ (c : Int)) = false := decide_eq_false (by omega)
    clear hb
    go_enter Tryz.func76, Tryz.ntmps76
    go_wp2_with fail
    go_ret3
    exact ⟨_, _, _, rfl, (Below.refl _ _).alloc (Nat.le_refl _) _⟩

set_option maxRecDepth 100000 in
set_option maxHeartbeats 4000000 in
theorem sRd_no_none (t : Int) (s : ByteArray) (at_ : Nat) (w : World) (hs : s.size ≤ 1048576) (hat : at_ < s.size) (hc : s[at_].toNat = 33) (hi : ∀ W, Calls Tryz.prog 76 #[.int .i64 t, .string s, .int .i64 ((at_ + 1 : Nat) : Int)] W (SNone W)) :
    Calls Tryz.prog 76 #[.int .i64 t, .string s, .int .i64 at_] w (SNone w) := by
  have hd : (at_ : Int) < (s.size : Int) := by omega
  have hd0 : (0 : Int) ≤ (at_ : Int) := by omega
  have HI := Lib.hid hi
  clear hi
  go_enter Tryz.func76, Tryz.ntmps76
  go_wp2_with fail
  refine (HI.out _).mono ?_
  rintro e w1 ⟨A, n, c, rfl, hb⟩
  have HB := Lib.hid hb
  clear hb
  go_wp2_with fail
  go_ret3
  exact ⟨_, _, _, rfl, HB.out⟩
set_option maxRecDepth 100000 in
set_option maxHeartbeats 4000000 in
theorem sRd_no (t : Int) (s : ByteArray) (at_ : Nat) (w : World) (hs : s.size ≤ 1048576) (hat : at_ < s.size) (hc : s[at_].toNat = 33) (x : Sen) (hl : (issueS t x).length ≤ 70) (rest : List Nat) (hi : ∀ W, Calls Tryz.prog 76 #[.int .i64 t, .string s, .int .i64 ((at_ + 1 : Nat) : Int)] W (SSome t s x rest W)) :
    Calls Tryz.prog 76 #[.int .i64 t, .string s, .int .i64 at_] w (SSome t s (.no x) rest w) := by
  have hd : (at_ : Int) < (s.size : Int) := by omega
  have hd0 : (0 : Int) ≤ (at_ : Int) := by omega
  have HI := Lib.hid hi
  clear hi
  go_enter Tryz.func76, Tryz.ntmps76
  go_wp2_with fail
  refine (HI.out _).mono ?_
  rintro e w1 ⟨v, a2, rfl, ha2, hd2, ho, hb⟩
  obtain ⟨A1, c1, rfl, _, _, _, _⟩ := ho.form
  have HB := Lib.hid hb
  have HR := Lib.hid (Owns.row ho (by omega))
  have HD := Lib.hid hd2
  clear hb ho hd2
  go_wp2_with fail
  refine (sNotIssue t _ _ _ _ _ HR.out).mono ?_
  rintro e w2 ⟨v, rfl, ho, hb⟩
  have HO := Lib.hid (ho.base HB.out.size)
  have HB2 := Lib.hid (bel_trans HB.out hb)
  clear ho hb
  go_wp2_with fail
  go_ret3
  exact ⟨_, a2, rfl, ha2, HD.out, HO.out, HB2.out⟩
set_option maxRecDepth 100000 in
set_option maxHeartbeats 4000000 in
theorem sRd_ask_none (t : Int) (s : ByteArray) (at_ : Nat) (w : World) (hs : s.size ≤ 1048576) (hat : at_ < s.size) (hc : s[at_].toNat = 63) (hi : ∀ W, Calls Tryz.prog 76 #[.int .i64 t, .string s, .int .i64 ((at_ + 1 : Nat) : Int)] W (SNone W)) :
    Calls Tryz.prog 76 #[.int .i64 t, .string s, .int .i64 at_] w (SNone w) := by
  have hd : (at_ : Int) < (s.size : Int) := by omega
  have hd0 : (0 : Int) ≤ (at_ : Int) := by omega
  have HI := Lib.hid hi
  clear hi
  go_enter Tryz.func76, Tryz.ntmps76
  go_wp2_with fail
  refine (HI.out _).mono ?_
  rintro e w1 ⟨A, n, c, rfl, hb⟩
  have HB := Lib.hid hb
  clear hb
  go_wp2_with fail
  go_ret3
  exact ⟨_, _, _, rfl, HB.out⟩
set_option maxRecDepth 100000 in
set_option maxHeartbeats 4000000 in
theorem sRd_ask (t : Int) (s : ByteArray) (at_ : Nat) (w : World) (hs : s.size ≤ 1048576) (hat : at_ < s.size) (hc : s[at_].toNat = 63) (x : Sen) (hl : (issueS t x).length ≤ 70) (rest : List Nat) (hi : ∀ W, Calls Tryz.prog 76 #[.int .i64 t, .string s, .int .i64 ((at_ + 1 : Nat) : Int)] W (SSome t s x rest W)) :
    Calls Tryz.prog 76 #[.int .i64 t, .string s, .int .i64 at_] w (SSome t s (.ask x) rest w) := by
  have hd : (at_ : Int) < (s.size : Int) := by omega
  have hd0 : (0 : Int) ≤ (at_ : Int) := by omega
  have HI := Lib.hid hi
  clear hi
  go_enter Tryz.func76, Tryz.ntmps76
  go_wp2_with fail
  refine (HI.out _).mono ?_
  rintro e w1 ⟨v, a2, rfl, ha2, hd2, ho, hb⟩
  obtain ⟨A1, c1, rfl, _, _, _, _⟩ := ho.form
  have HB := Lib.hid hb
  have HR := Lib.hid (Owns.row ho (by omega))
  have HD := Lib.hid hd2
  clear hb ho hd2
  go_wp2_with fail
  refine (sWhetherIssue t _ _ _ _ _ HR.out).mono ?_
  rintro e w2 ⟨v, rfl, ho, hb⟩
  have HO := Lib.hid (ho.base HB.out.size)
  have HB2 := Lib.hid (bel_trans HB.out hb)
  clear ho hb
  go_wp2_with fail
  go_ret3
  exact ⟨_, a2, rfl, ha2, HD.out, HO.out, HB2.out⟩

end Go.Proofs.YtmdogidflaplkaaGreat

namespace Go.Proofs.YtmdogidflaplkaaGreat
open Go.RowKit


set_option maxRecDepth 100000 in
set_option maxHeartbeats 4000000 in
theorem sRd_pair_none (t : Int) (s : ByteArray) (at_ : Nat) (w : World) (hs : s.size ≤ 1048576) (hat : at_ < s.size) (hc : s[at_].toNat = 40) (hi : ∀ W, Calls Tryz.prog 76 #[.int .i64 t, .string s, .int .i64 ((at_ + 1 : Nat) : Int)] W (SNone W)) :
    Calls Tryz.prog 76 #[.int .i64 t, .string s, .int .i64 at_] w (SNone w) := by
  have hd : (at_ : Int) < (s.size : Int) := by omega
  have hd0 : (0 : Int) ≤ (at_ : Int) := by omega
  have HI := Lib.hid hi
  clear hi
  go_enter Tryz.func76, Tryz.ntmps76
  go_wp2_with fail
  refine (HI.out _).mono ?_
  rintro e w1 ⟨A, n, c, rfl, hb⟩
  have HB := Lib.hid hb
  clear hb
  go_wp2_with fail
  go_ret3
  exact ⟨_, _, _, rfl, HB.out⟩
set_option maxRecDepth 100000 in
set_option maxHeartbeats 4000000 in
theorem sRd_pair_mid (t : Int) (s : ByteArray) (at_ : Nat) (w : World) (hs : s.size ≤ 1048576) (hat : at_ < s.size) (hc : s[at_].toNat = 40) (x : Sen) (hi : ∀ W, Calls Tryz.prog 76 #[.int .i64 t, .string s, .int .i64 ((at_ + 1 : Nat) : Int)] W (SSome t s x [] W)) :
    Calls Tryz.prog 76 #[.int .i64 t, .string s, .int .i64 at_] w (SNone w) := by
  have hd : (at_ : Int) < (s.size : Int) := by omega
  have hd0 : (0 : Int) ≤ (at_ : Int) := by omega
  have HI := Lib.hid hi
  clear hi
  go_enter Tryz.func76, Tryz.ntmps76
  go_wp2_with fail
  refine (HI.out _).mono ?_
  rintro e w1 ⟨v, a2, rfl, ha2, hd2, ho, hb⟩
  obtain ⟨A1, c1, rfl, _, _, _, _⟩ := ho.form
  obtain rfl := drop_end hd2 ha2
  have HB := Lib.hid hb
  clear hb ho hd2
  go_wp2_with fail
  go_ret3
  exact ⟨_, _, _, rfl, HB.out⟩
set_option maxRecDepth 100000 in
set_option maxHeartbeats 4000000 in
theorem sRd_pair_snd (t : Int) (s : ByteArray) (at_ : Nat) (w : World) (hs : s.size ≤ 1048576) (hat : at_ < s.size) (hc : s[at_].toNat = 40) (x : Sen) (m : Nat) (l : List Nat) (hi : ∀ W, Calls Tryz.prog 76 #[.int .i64 t, .string s, .int .i64 ((at_ + 1 : Nat) : Int)] W (SSome t s x (m :: l) W))
    (hi2 : ∀ (a2 : Nat) W, a2 ≤ s.size → (bytesN s).drop a2 = l → Calls Tryz.prog 76 #[.int .i64 t, .string s, .int .i64 a2] W (SNone W)) :
    Calls Tryz.prog 76 #[.int .i64 t, .string s, .int .i64 at_] w (SNone w) := by
  have hd : (at_ : Int) < (s.size : Int) := by omega
  have hd0 : (0 : Int) ≤ (at_ : Int) := by omega
  have HI := Lib.hid hi
  have HI2 := Lib.hid hi2
  clear hi hi2
  go_enter Tryz.func76, Tryz.ntmps76
  go_wp2_with fail
  refine (HI.out _).mono ?_
  rintro e w1 ⟨v, a2, rfl, ha2, hd2, ho, hb⟩
  obtain ⟨A1, c1, rfl, _, _, _, _⟩ := ho.form
  obtain ⟨hlt, hm, hl⟩ := drop_lt hd2
  have HC2 := Lib.hid (fun W => HI2.out (a2 + 1) W hlt hl)
  have HB := Lib.hid hb
  have hd3 : (a2 : Int) < (s.size : Int) := by omega
  have hd4 : (0 : Int) ≤ (a2 : Int) := by omega
  clear hb ho hd2 hl hm
  go_wp2_with fail
  refine (HC2.out _).mono ?_
  rintro e w2 ⟨A, n, c, rfl, hb⟩
  have HB2 := Lib.hid (bel_trans HB.out hb)
  clear hb
  go_wp2_with fail
  go_ret3
  exact ⟨_, _, _, rfl, HB2.out⟩
set_option maxRecDepth 100000 in
set_option maxHeartbeats 4000000 in
theorem sRd_pair_end (t : Int) (s : ByteArray) (at_ : Nat) (w : World) (hs : s.size ≤ 1048576) (hat : at_ < s.size) (hc : s[at_].toNat = 40) (x : Sen) (m : Nat) (l : List Nat) (hi : ∀ W, Calls Tryz.prog 76 #[.int .i64 t, .string s, .int .i64 ((at_ + 1 : Nat) : Int)] W (SSome t s x (m :: l) W)) (y : Sen)
    (hi2 : ∀ (a2 : Nat) W, a2 ≤ s.size → (bytesN s).drop a2 = l → Calls Tryz.prog 76 #[.int .i64 t, .string s, .int .i64 a2] W (SSome t s y [] W)) :
    Calls Tryz.prog 76 #[.int .i64 t, .string s, .int .i64 at_] w (SNone w) := by
  have hd : (at_ : Int) < (s.size : Int) := by omega
  have hd0 : (0 : Int) ≤ (at_ : Int) := by omega
  have HI := Lib.hid hi
  have HI2 := Lib.hid hi2
  clear hi hi2
  go_enter Tryz.func76, Tryz.ntmps76
  go_wp2_with fail
  refine (HI.out _).mono ?_
  rintro e w1 ⟨v, a2, rfl, ha2, hd2, ho, hb⟩
  obtain ⟨A1, c1, rfl, _, _, _, _⟩ := ho.form
  obtain ⟨hlt, hm, hl⟩ := drop_lt hd2
  have HC2 := Lib.hid (fun W => HI2.out (a2 + 1) W hlt hl)
  have HB := Lib.hid hb
  have hd3 : (a2 : Int) < (s.size : Int) := by omega
  have hd4 : (0 : Int) ≤ (a2 : Int) := by omega
  clear hb ho hd2 hl hm
  go_wp2_with fail
  refine (HC2.out _).mono ?_
  rintro e w2 ⟨v, a3, rfl, ha3, hd5, ho, hb⟩
  obtain ⟨A2, c2, rfl, _, _, _, _⟩ := ho.form
  obtain rfl := drop_end hd5 ha3
  have HB2 := Lib.hid (bel_trans HB.out hb)
  clear hb ho hd5
  go_wp2_with fail
  go_ret3
  exact ⟨_, _, _, rfl, HB2.out⟩
set_option maxRecDepth 100000 in
set_option maxHeartbeats 4000000 in
theorem sRd_pair_open (t : Int) (s : ByteArray) (at_ : Nat) (w : World) (hs : s.size ≤ 1048576) (hat : at_ < s.size) (hc : s[at_].toNat = 40) (x : Sen) (m : Nat) (l : List Nat) (hi : ∀ W, Calls Tryz.prog 76 #[.int .i64 t, .string s, .int .i64 ((at_ + 1 : Nat) : Int)] W (SSome t s x (m :: l) W)) (y : Sen) (e0 : Nat) (r : List Nat) (he : e0 ≠ 41)
    (hi2 : ∀ (a2 : Nat) W, a2 ≤ s.size → (bytesN s).drop a2 = l → Calls Tryz.prog 76 #[.int .i64 t, .string s, .int .i64 a2] W (SSome t s y (e0 :: r) W)) :
    Calls Tryz.prog 76 #[.int .i64 t, .string s, .int .i64 at_] w (SNone w) := by
  have hd : (at_ : Int) < (s.size : Int) := by omega
  have hd0 : (0 : Int) ≤ (at_ : Int) := by omega
  have HI := Lib.hid hi
  have HI2 := Lib.hid hi2
  have he1 : ((e0 : Int) == 41) = false := by rw [beq_eq_false_iff_ne]; omega
  have he2 : ((e0 : Int) != 41) = true := by rw [bne, he1]; rfl
  clear hi hi2 he
  go_enter Tryz.func76, Tryz.ntmps76
  go_wp2_with fail
  refine (HI.out _).mono ?_
  rintro e w1 ⟨v, a2, rfl, ha2, hd2, ho, hb⟩
  obtain ⟨A1, c1, rfl, _, _, _, _⟩ := ho.form
  obtain ⟨hlt, hm, hl⟩ := drop_lt hd2
  have HC2 := Lib.hid (fun W => HI2.out (a2 + 1) W hlt hl)
  have HB := Lib.hid hb
  have hd3 : (a2 : Int) < (s.size : Int) := by omega
  have hd4 : (0 : Int) ≤ (a2 : Int) := by omega
  clear hb ho hd2 hl hm
  go_wp2_with fail
  refine (HC2.out _).mono ?_
  rintro e w2 ⟨v, a3, rfl, ha3, hd5, ho, hb⟩
  obtain ⟨A2, c2, rfl, _, _, _, _⟩ := ho.form
  obtain ⟨hlt3, hm3, _⟩ := drop_lt hd5
  have HB2 := Lib.hid (bel_trans HB.out hb)
  have hd6 : (a3 : Int) < (s.size : Int) := by omega
  have hd7 : (0 : Int) ≤ (a3 : Int) := by omega
  clear hb ho hd5
  go_wp2_with fail
  go_ret3
  exact ⟨_, _, _, rfl, HB2.out⟩
set_option maxRecDepth 100000 in
set_option maxHeartbeats 4000000 in
theorem sRd_pair_sign (t : Int) (s : ByteArray) (at_ : Nat) (w : World) (hs : s.size ≤ 1048576) (hat : at_ < s.size) (hc : s[at_].toNat = 40) (x : Sen) (m : Nat) (l : List Nat) (hi : ∀ W, Calls Tryz.prog 76 #[.int .i64 t, .string s, .int .i64 ((at_ + 1 : Nat) : Int)] W (SSome t s x (m :: l) W)) (y : Sen) (r : List Nat)
    (hm : (decide (m = 38) || decide (m = 124) || decide (m = 62)) = false)
    (hi2 : ∀ (a2 : Nat) W, a2 ≤ s.size → (bytesN s).drop a2 = l → Calls Tryz.prog 76 #[.int .i64 t, .string s, .int .i64 a2] W (SSome t s y (41 :: r) W)) :
    Calls Tryz.prog 76 #[.int .i64 t, .string s, .int .i64 at_] w (SNone w) := by
  have hd : (at_ : Int) < (s.size : Int) := by omega
  have hd0 : (0 : Int) ≤ (at_ : Int) := by omega
  have HI := Lib.hid hi
  have HI2 := Lib.hid hi2
  simp only [Bool.or_eq_false_iff, decide_eq_false_iff_not] at hm
  have e1 : ((m : Int) == 38) = false := by rw [beq_eq_false_iff_ne]; omega
  have e2 : ((m : Int) == 124) = false := by rw [beq_eq_false_iff_ne]; omega
  have e3 : ((m : Int) == 62) = false := by rw [beq_eq_false_iff_ne]; omega
  clear hi hi2 hm
  go_enter Tryz.func76, Tryz.ntmps76
  go_wp2_with fail
  refine (HI.out _).mono ?_
  rintro e w1 ⟨v, a2, rfl, ha2, hd2, ho, hb⟩
  obtain ⟨A1, c1, rfl, _, _, _, _⟩ := ho.form
  obtain ⟨hlt, hm, hl⟩ := drop_lt hd2
  have HC2 := Lib.hid (fun W => HI2.out (a2 + 1) W hlt hl)
  have HB := Lib.hid hb
  have hd3 : (a2 : Int) < (s.size : Int) := by omega
  have hd4 : (0 : Int) ≤ (a2 : Int) := by omega
  clear hb ho hd2 hl
  go_wp2_with fail
  refine (HC2.out _).mono ?_
  rintro e w2 ⟨v, a3, rfl, ha3, hd5, ho, hb⟩
  obtain ⟨A2, c2, rfl, _, _, _, _⟩ := ho.form
  obtain ⟨hlt3, hm3, _⟩ := drop_lt hd5
  have HB2 := Lib.hid (bel_trans HB.out hb)
  have hd6 : (a3 : Int) < (s.size : Int) := by omega
  have hd7 : (0 : Int) ≤ (a3 : Int) := by omega
  clear hb ho hd5
  go_wp2_with fail
  go_ret3
  exact ⟨_, _, _, rfl, HB2.out.alloc HB2.out.size _⟩
end Go.Proofs.YtmdogidflaplkaaGreat

namespace Go.Proofs.YtmdogidflaplkaaGreat
open Go.RowKit


set_option maxRecDepth 100000 in
set_option maxHeartbeats 4000000 in
theorem sRd_pair_and_ (t : Int) (s : ByteArray) (at_ : Nat) (w : World) (hs : s.size ≤ 1048576) (hat : at_ < s.size) (hc : s[at_].toNat = 40) (x : Sen) (l : List Nat) (hi : ∀ W, Calls Tryz.prog 76 #[.int .i64 t, .string s, .int .i64 ((at_ + 1 : Nat) : Int)] W (SSome t s x (38 :: l) W)) (y : Sen) (r : List Nat) (hlx : (issueS t x).length ≤ 70) (hly : (issueS t y).length ≤ 70)
    (hi2 : ∀ (a2 : Nat) W, a2 ≤ s.size → (bytesN s).drop a2 = l → Calls Tryz.prog 76 #[.int .i64 t, .string s, .int .i64 a2] W (SSome t s y (41 :: r) W)) :
    Calls Tryz.prog 76 #[.int .i64 t, .string s, .int .i64 at_] w (SSome t s (.and_ x y) r w) := by
  have hd : (at_ : Int) < (s.size : Int) := by omega
  have hd0 : (0 : Int) ≤ (at_ : Int) := by omega
  have HI := Lib.hid hi
  have HI2 := Lib.hid hi2
  obtain ⟨px, HPX⟩ : ∃ b, Hid (plainS x = b) := ⟨_, rfl⟩
  obtain ⟨py, HPY⟩ : ∃ b, Hid (plainS y = b) := ⟨_, rfl⟩
  clear hi hi2
  cases px
  all_goals
    go_enter Tryz.func76, Tryz.ntmps76
    go_wp2_with fail
    refine (HI.out _).mono ?_
    rintro e w1 ⟨v, a2, rfl, ha2, hd2, ho, hb⟩
    rw [HPX.out]
    obtain ⟨A1, c1, rfl, _, _, _, _⟩ := ho.form
    obtain ⟨hlt, hm, hl⟩ := drop_lt hd2
    have HC2 := Lib.hid (fun W => HI2.out (a2 + 1) W hlt hl)
    have HR1 := Lib.hid (Owns.row ho (by omega))
    have HB := Lib.hid hb
    have hd3 : (a2 : Int) < (s.size : Int) := by omega
    have hd4 : (0 : Int) ≤ (a2 : Int) := by omega
    clear hb ho hd2 hl
    go_wp2_with fail
    refine (HC2.out _).mono ?_
    rintro e w2 ⟨v, a3, rfl, ha3, hd5, ho, hb⟩
    rw [HPY.out]
    obtain ⟨A2, c2, rfl, _, _, _, _⟩ := ho.form
    obtain ⟨hlt3, hm3, hl3⟩ := drop_lt hd5
    have HB2 := Lib.hid (bel_trans HB.out hb)
    have HR2 := Lib.hid (Owns.row ho (by omega))
    replace HR1 := Lib.hid (HR1.out.below hb)
    have HL3 := Lib.hid hl3
    have hd6 : (a3 : Int) < (s.size : Int) := by omega
    have hd7 : (0 : Int) ≤ (a3 : Int) := by omega
    clear hb ho hd5 hl3
    go_wp2_with fail
    refine (sBothIssues t _ _ _ _ _ _ _ _ _ HR1.out HR2.out).mono ?_
    rintro e w3 ⟨v, rfl, ho, hb⟩
    have HO := Lib.hid (ho.base HB2.out.size)
    have HB3 := Lib.hid (bel_trans HB2.out hb)
    clear ho hb
    go_wp2_with fail
    go_ret3
    exact ⟨_, a3 + 1, by unfold plainS; first | (rw [HPX.out, HPY.out]; rfl) | (rw [HPX.out]; rfl) | rfl, hlt3, HL3.out, HO.out, HB3.out⟩
set_option maxRecDepth 100000 in
set_option maxHeartbeats 4000000 in
theorem sRd_pair_or_ (t : Int) (s : ByteArray) (at_ : Nat) (w : World) (hs : s.size ≤ 1048576) (hat : at_ < s.size) (hc : s[at_].toNat = 40) (x : Sen) (l : List Nat) (hi : ∀ W, Calls Tryz.prog 76 #[.int .i64 t, .string s, .int .i64 ((at_ + 1 : Nat) : Int)] W (SSome t s x (124 :: l) W)) (y : Sen) (r : List Nat) (hlx : (issueS t x).length ≤ 70) (hly : (issueS t y).length ≤ 70)
    (hi2 : ∀ (a2 : Nat) W, a2 ≤ s.size → (bytesN s).drop a2 = l → Calls Tryz.prog 76 #[.int .i64 t, .string s, .int .i64 a2] W (SSome t s y (41 :: r) W)) :
    Calls Tryz.prog 76 #[.int .i64 t, .string s, .int .i64 at_] w (SSome t s (.or_ x y) r w) := by
  have hd : (at_ : Int) < (s.size : Int) := by omega
  have hd0 : (0 : Int) ≤ (at_ : Int) := by omega
  have HI := Lib.hid hi
  have HI2 := Lib.hid hi2
  obtain ⟨px, HPX⟩ : ∃ b, Hid (plainS x = b) := ⟨_, rfl⟩
  obtain ⟨py, HPY⟩ : ∃ b, Hid (plainS y = b) := ⟨_, rfl⟩
  clear hi hi2
  cases px
  all_goals
    go_enter Tryz.func76, Tryz.ntmps76
    go_wp2_with fail
    refine (HI.out _).mono ?_
    rintro e w1 ⟨v, a2, rfl, ha2, hd2, ho, hb⟩
    rw [HPX.out]
    obtain ⟨A1, c1, rfl, _, _, _, _⟩ := ho.form
    obtain ⟨hlt, hm, hl⟩ := drop_lt hd2
    have HC2 := Lib.hid (fun W => HI2.out (a2 + 1) W hlt hl)
    have HR1 := Lib.hid (Owns.row ho (by omega))
    have HB := Lib.hid hb
    have hd3 : (a2 : Int) < (s.size : Int) := by omega
    have hd4 : (0 : Int) ≤ (a2 : Int) := by omega
    clear hb ho hd2 hl
    go_wp2_with fail
    refine (HC2.out _).mono ?_
    rintro e w2 ⟨v, a3, rfl, ha3, hd5, ho, hb⟩
    rw [HPY.out]
    obtain ⟨A2, c2, rfl, _, _, _, _⟩ := ho.form
    obtain ⟨hlt3, hm3, hl3⟩ := drop_lt hd5
    have HB2 := Lib.hid (bel_trans HB.out hb)
    have HR2 := Lib.hid (Owns.row ho (by omega))
    replace HR1 := Lib.hid (HR1.out.below hb)
    have HL3 := Lib.hid hl3
    have hd6 : (a3 : Int) < (s.size : Int) := by omega
    have hd7 : (0 : Int) ≤ (a3 : Int) := by omega
    clear hb ho hd5 hl3
    go_wp2_with fail
    refine (sEitherIssue t _ _ _ _ _ _ _ _ _ HR1.out HR2.out).mono ?_
    rintro e w3 ⟨v, rfl, ho, hb⟩
    have HO := Lib.hid (ho.base HB2.out.size)
    have HB3 := Lib.hid (bel_trans HB2.out hb)
    clear ho hb
    go_wp2_with fail
    go_ret3
    exact ⟨_, a3 + 1, by unfold plainS; first | (rw [HPX.out, HPY.out]; rfl) | (rw [HPX.out]; rfl) | rfl, hlt3, HL3.out, HO.out, HB3.out⟩
set_option maxRecDepth 100000 in
set_option maxHeartbeats 4000000 in
theorem sRd_pair_if_ (t : Int) (s : ByteArray) (at_ : Nat) (w : World) (hs : s.size ≤ 1048576) (hat : at_ < s.size) (hc : s[at_].toNat = 40) (x : Sen) (l : List Nat) (hi : ∀ W, Calls Tryz.prog 76 #[.int .i64 t, .string s, .int .i64 ((at_ + 1 : Nat) : Int)] W (SSome t s x (62 :: l) W)) (y : Sen) (r : List Nat) (hlx : (issueS t x).length ≤ 70) (hly : (issueS t y).length ≤ 70)
    (hi2 : ∀ (a2 : Nat) W, a2 ≤ s.size → (bytesN s).drop a2 = l → Calls Tryz.prog 76 #[.int .i64 t, .string s, .int .i64 a2] W (SSome t s y (41 :: r) W)) :
    Calls Tryz.prog 76 #[.int .i64 t, .string s, .int .i64 at_] w (SSome t s (.if_ x y) r w) := by
  have hd : (at_ : Int) < (s.size : Int) := by omega
  have hd0 : (0 : Int) ≤ (at_ : Int) := by omega
  have HI := Lib.hid hi
  have HI2 := Lib.hid hi2
  obtain ⟨px, HPX⟩ : ∃ b, Hid (plainS x = b) := ⟨_, rfl⟩
  obtain ⟨py, HPY⟩ : ∃ b, Hid (plainS y = b) := ⟨_, rfl⟩
  clear hi hi2
  cases px
  all_goals
    go_enter Tryz.func76, Tryz.ntmps76
    go_wp2_with fail
    refine (HI.out _).mono ?_
    rintro e w1 ⟨v, a2, rfl, ha2, hd2, ho, hb⟩
    rw [HPX.out]
    obtain ⟨A1, c1, rfl, _, _, _, _⟩ := ho.form
    obtain ⟨hlt, hm, hl⟩ := drop_lt hd2
    have HC2 := Lib.hid (fun W => HI2.out (a2 + 1) W hlt hl)
    have HR1 := Lib.hid (Owns.row ho (by omega))
    have HB := Lib.hid hb
    have hd3 : (a2 : Int) < (s.size : Int) := by omega
    have hd4 : (0 : Int) ≤ (a2 : Int) := by omega
    clear hb ho hd2 hl
    go_wp2_with fail
    refine (HC2.out _).mono ?_
    rintro e w2 ⟨v, a3, rfl, ha3, hd5, ho, hb⟩
    rw [HPY.out]
    obtain ⟨A2, c2, rfl, _, _, _, _⟩ := ho.form
    obtain ⟨hlt3, hm3, hl3⟩ := drop_lt hd5
    have HB2 := Lib.hid (bel_trans HB.out hb)
    have HR2 := Lib.hid (Owns.row ho (by omega))
    replace HR1 := Lib.hid (HR1.out.below hb)
    have HL3 := Lib.hid hl3
    have hd6 : (a3 : Int) < (s.size : Int) := by omega
    have hd7 : (0 : Int) ≤ (a3 : Int) := by omega
    clear hb ho hd5 hl3
    go_wp2_with fail
    refine (sIfIssue t _ _ _ _ _ _ _ _ _ HR1.out HR2.out).mono ?_
    rintro e w3 ⟨v, rfl, ho, hb⟩
    have HO := Lib.hid (ho.base HB2.out.size)
    have HB3 := Lib.hid (bel_trans HB2.out hb)
    clear ho hb
    go_wp2_with fail
    go_ret3
    exact ⟨_, a3 + 1, by unfold plainS; first | (rw [HPX.out, HPY.out]; rfl) | (rw [HPX.out]; rfl) | rfl, hlt3, HL3.out, HO.out, HB3.out⟩
end Go.Proofs.YtmdogidflaplkaaGreat

namespace Go.Proofs.YtmdogidflaplkaaGreat
open Go.RowKit

set_option maxRecDepth 100000 in
set_option maxHeartbeats 8000000 in
theorem sRd_letter (t : Int) (s : ByteArray) (at_ : Nat) (w : World) (hs : s.size ≤ 1048576) (hat : at_ < s.size) (i : Nat) (hc : s[at_].toNat = 97 + i) (h1 : 1 ≤ t) (h3 : t ≤ 3) (hi : (i : Int) < t) :
    Calls Tryz.prog 76 #[.int .i64 t, .string s, .int .i64 at_] w (OwnPost3 (wordTo (97 + i) (nWorlds t)) at_ w) := by
  have hd : (at_ : Int) < (s.size : Int) := by omega
  have hd0 : (0 : Int) ≤ (at_ : Int) := by omega
  have h : (t = 1 ∧ i = 0) ∨ (t = 2 ∧ i = 0) ∨ (t = 2 ∧ i = 1) ∨ (t = 3 ∧ i = 0) ∨ (t = 3 ∧ i = 1) ∨ (t = 3 ∧ i = 2) := by omega
  clear h1 h3 hi
  rcases h with ⟨rfl, rfl⟩ | ⟨rfl, rfl⟩ | ⟨rfl, rfl⟩ | ⟨rfl, rfl⟩ | ⟨rfl, rfl⟩ | ⟨rfl, rfl⟩
  · have hc : s[at_].toNat = 97 := hc
    have hb : Hid (∀ k : Nat, k < 2 → k = 0 ∨ k = 1 ∨ k = 2 ∨ k = 3 ∨ k = 4 ∨ k = 5 ∨ k = 6 ∨ k = 7) := fun k hk => by omega
    go_enter Tryz.func76, Tryz.ntmps76
    go_wp2_with fail
    go_loop [9, 10] (fun v i => ∃ k : Nat, k ≤ 2 ∧ i = .int .i64 k ∧ v = .int .i64 (wordTo 97 k)) (fun _ i => 2 - (Go.RowKit.intOf i).toNat)
    case atStart => exact ⟨0, Nat.zero_le _, rfl, rfl⟩
    case round =>
      obtain ⟨k, hk, rfl, rfl⟩ := hrel
      by_cases hlt : k < 2
      · have h8 := hb.out k hlt
        clear hk
        rcases h8 with rfl | rfl | rfl | rfl | rfl | rfl | rfl | rfl
        all_goals first
          | (exfalso; revert hlt; decide)
          | (clear hlt
             go_wp2_with fail
             exact ⟨⟨_, by decide, rfl, by first | rfl | (rw [IntWalk.wrap64_in _ ⟨by decide, by decide⟩]; rfl)⟩, by decide⟩)
      · obtain rfl : k = 2 := by omega
        go_wp2_with fail
        go_ret3
        exact ⟨_, rfl, Owns.lit _ _ [((wordTo 97 2 : Nat) : Int)] (Nat.le_refl _) (by simp [maxLen]), (Below.refl _ _).alloc (Nat.le_refl _) _⟩
  · have hc : s[at_].toNat = 97 := hc
    have hb : Hid (∀ k : Nat, k < 4 → k = 0 ∨ k = 1 ∨ k = 2 ∨ k = 3 ∨ k = 4 ∨ k = 5 ∨ k = 6 ∨ k = 7) := fun k hk => by omega
    go_enter Tryz.func76, Tryz.ntmps76
    go_wp2_with fail
    go_loop [9, 10] (fun v i => ∃ k : Nat, k ≤ 4 ∧ i = .int .i64 k ∧ v = .int .i64 (wordTo 97 k)) (fun _ i => 4 - (Go.RowKit.intOf i).toNat)
    case atStart => exact ⟨0, Nat.zero_le _, rfl, rfl⟩
    case round =>
      obtain ⟨k, hk, rfl, rfl⟩ := hrel
      by_cases hlt : k < 4
      · have h8 := hb.out k hlt
        clear hk
        rcases h8 with rfl | rfl | rfl | rfl | rfl | rfl | rfl | rfl
        all_goals first
          | (exfalso; revert hlt; decide)
          | (clear hlt
             go_wp2_with fail
             exact ⟨⟨_, by decide, rfl, by first | rfl | (rw [IntWalk.wrap64_in _ ⟨by decide, by decide⟩]; rfl)⟩, by decide⟩)
      · obtain rfl : k = 4 := by omega
        go_wp2_with fail
        go_ret3
        exact ⟨_, rfl, Owns.lit _ _ [((wordTo 97 4 : Nat) : Int)] (Nat.le_refl _) (by simp [maxLen]), (Below.refl _ _).alloc (Nat.le_refl _) _⟩
  · have hc : s[at_].toNat = 98 := hc
    have hb : Hid (∀ k : Nat, k < 4 → k = 0 ∨ k = 1 ∨ k = 2 ∨ k = 3 ∨ k = 4 ∨ k = 5 ∨ k = 6 ∨ k = 7) := fun k hk => by omega
    go_enter Tryz.func76, Tryz.ntmps76
    go_wp2_with fail
    go_loop [9, 10] (fun v i => ∃ k : Nat, k ≤ 4 ∧ i = .int .i64 k ∧ v = .int .i64 (wordTo 98 k)) (fun _ i => 4 - (Go.RowKit.intOf i).toNat)
    case atStart => exact ⟨0, Nat.zero_le _, rfl, rfl⟩
    case round =>
      obtain ⟨k, hk, rfl, rfl⟩ := hrel
      by_cases hlt : k < 4
      · have h8 := hb.out k hlt
        clear hk
        rcases h8 with rfl | rfl | rfl | rfl | rfl | rfl | rfl | rfl
        all_goals first
          | (exfalso; revert hlt; decide)
          | (clear hlt
             go_wp2_with fail
             exact ⟨⟨_, by decide, rfl, by first | rfl | (rw [IntWalk.wrap64_in _ ⟨by decide, by decide⟩]; rfl)⟩, by decide⟩)
      · obtain rfl : k = 4 := by omega
        go_wp2_with fail
        go_ret3
        exact ⟨_, rfl, Owns.lit _ _ [((wordTo 98 4 : Nat) : Int)] (Nat.le_refl _) (by simp [maxLen]), (Below.refl _ _).alloc (Nat.le_refl _) _⟩
  · have hc : s[at_].toNat = 97 := hc
    have hb : Hid (∀ k : Nat, k < 8 → k = 0 ∨ k = 1 ∨ k = 2 ∨ k = 3 ∨ k = 4 ∨ k = 5 ∨ k = 6 ∨ k = 7) := fun k hk => by omega
    go_enter Tryz.func76, Tryz.ntmps76
    go_wp2_with fail
    go_loop [9, 10] (fun v i => ∃ k : Nat, k ≤ 8 ∧ i = .int .i64 k ∧ v = .int .i64 (wordTo 97 k)) (fun _ i => 8 - (Go.RowKit.intOf i).toNat)
    case atStart => exact ⟨0, Nat.zero_le _, rfl, rfl⟩
    case round =>
      obtain ⟨k, hk, rfl, rfl⟩ := hrel
      by_cases hlt : k < 8
      · have h8 := hb.out k hlt
        clear hk
        rcases h8 with rfl | rfl | rfl | rfl | rfl | rfl | rfl | rfl
        all_goals first
          | (exfalso; revert hlt; decide)
          | (clear hlt
             go_wp2_with fail
             exact ⟨⟨_, by decide, rfl, by first | rfl | (rw [IntWalk.wrap64_in _ ⟨by decide, by decide⟩]; rfl)⟩, by decide⟩)
      · obtain rfl : k = 8 := by omega
        go_wp2_with fail
        go_ret3
        exact ⟨_, rfl, Owns.lit _ _ [((wordTo 97 8 : Nat) : Int)] (Nat.le_refl _) (by simp [maxLen]), (Below.refl _ _).alloc (Nat.le_refl _) _⟩
  · have hc : s[at_].toNat = 98 := hc
    have hb : Hid (∀ k : Nat, k < 8 → k = 0 ∨ k = 1 ∨ k = 2 ∨ k = 3 ∨ k = 4 ∨ k = 5 ∨ k = 6 ∨ k = 7) := fun k hk => by omega
    go_enter Tryz.func76, Tryz.ntmps76
    go_wp2_with fail
    go_loop [9, 10] (fun v i => ∃ k : Nat, k ≤ 8 ∧ i = .int .i64 k ∧ v = .int .i64 (wordTo 98 k)) (fun _ i => 8 - (Go.RowKit.intOf i).toNat)
    case atStart => exact ⟨0, Nat.zero_le _, rfl, rfl⟩
    case round =>
      obtain ⟨k, hk, rfl, rfl⟩ := hrel
      by_cases hlt : k < 8
      · have h8 := hb.out k hlt
        clear hk
        rcases h8 with rfl | rfl | rfl | rfl | rfl | rfl | rfl | rfl
        all_goals first
          | (exfalso; revert hlt; decide)
          | (clear hlt
             go_wp2_with fail
             exact ⟨⟨_, by decide, rfl, by first | rfl | (rw [IntWalk.wrap64_in _ ⟨by decide, by decide⟩]; rfl)⟩, by decide⟩)
      · obtain rfl : k = 8 := by omega
        go_wp2_with fail
        go_ret3
        exact ⟨_, rfl, Owns.lit _ _ [((wordTo 98 8 : Nat) : Int)] (Nat.le_refl _) (by simp [maxLen]), (Below.refl _ _).alloc (Nat.le_refl _) _⟩
  · have hc : s[at_].toNat = 99 := hc
    have hb : Hid (∀ k : Nat, k < 8 → k = 0 ∨ k = 1 ∨ k = 2 ∨ k = 3 ∨ k = 4 ∨ k = 5 ∨ k = 6 ∨ k = 7) := fun k hk => by omega
    go_enter Tryz.func76, Tryz.ntmps76
    go_wp2_with fail
    go_loop [9, 10] (fun v i => ∃ k : Nat, k ≤ 8 ∧ i = .int .i64 k ∧ v = .int .i64 (wordTo 99 k)) (fun _ i => 8 - (Go.RowKit.intOf i).toNat)
    case atStart => exact ⟨0, Nat.zero_le _, rfl, rfl⟩
    case round =>
      obtain ⟨k, hk, rfl, rfl⟩ := hrel
      by_cases hlt : k < 8
      · have h8 := hb.out k hlt
        clear hk
        rcases h8 with rfl | rfl | rfl | rfl | rfl | rfl | rfl | rfl
        all_goals first
          | (exfalso; revert hlt; decide)
          | (clear hlt
             go_wp2_with fail
             exact ⟨⟨_, by decide, rfl, by first | rfl | (rw [IntWalk.wrap64_in _ ⟨by decide, by decide⟩]; rfl)⟩, by decide⟩)
      · obtain rfl : k = 8 := by omega
        go_wp2_with fail
        go_ret3
        exact ⟨_, rfl, Owns.lit _ _ [((wordTo 99 8 : Nat) : Int)] (Nat.le_refl _) (by simp [maxLen]), (Below.refl _ _).alloc (Nat.le_refl _) _⟩
end Go.Proofs.YtmdogidflaplkaaGreat

/-
  The model's l4End and FormulaOk: where a formula ends is where the plain parser ends. Texts of any length.
-/
import Derived.Test.YtlnffpofbfigaaaGreatDoorFRead
namespace Go.Proofs.YtlnffpofbfigaaaGreatDoor
open Go.RowKit

theorem drop_lt {l : List UInt8} {p : Nat} {c : UInt8} {r : List UInt8} (h : l.drop p = c :: r) : p < l.length := by
  have e := congrArg List.length h
  rw [List.length_drop] at e
  simp at e; omega
theorem drop_tail {l : List UInt8} {p : Nat} {c : UInt8} {r : List UInt8} (h : l.drop p = c :: r) : l.drop (p + 1) = r := by
  rw [← List.drop_drop, h]
  rfl
/-- What is left behind a formula, as a place of the text. -/
theorem drop_rest {l a r : List UInt8} {p m : Nat} (h : l.drop p = a ++ r) (hm : m + r.length = l.length) (hp : p ≤ l.length) : l.drop m = r := by
  have e := congrArg List.length h
  rw [List.length_drop, List.length_append] at e
  have hq : m = a.length + p := by omega
  rw [hq, Nat.add_comm, ← List.drop_drop, h]
  simp

theorem idx_run {s : ByteArray} {p : Nat} {c : UInt8} {r : List UInt8} (h : (bl s).drop p = c :: r) (w : World) :
    (Instr.index 9 (.string s) (.int .i64 (p : Int))).run Tryz.prog w = .ok (.int .u8 (c.toNat : Int)) w := by
  have hlt : p < s.size := by rw [bl_size]; exact drop_lt h
  rw [run_index_string (h := Tryz.underlying9), dif_pos ⟨by omega, by omega⟩]
  have hq : s[(p : Int).toNat]'(by omega) = c := by
    have e : s.data.toList[p]? = some c := by
      have := congrArg (fun x => x[0]?) h
      unfold bl at this
      simpa [List.getElem?_drop] using this
    simp only [Int.toNat_natCast]
    rw [List.getElem?_eq_getElem (by rw [← Lib.size_eq]; exact hlt)] at e
    exact Option.some.inj e
  rw [hq]

theorem u8_ne {c d : UInt8} (h : c ≠ d) {n : Int} (hn : (d.toNat : Int) = n) : ((c.toNat : Int) == n) = false := by
  rw [← hn]
  simp only [beq_eq_false_iff_ne, ne_eq, Int.natCast_inj]
  intro e
  exact h (UInt8.toNat_inj.1 e)

theorem u8_neq {c d : UInt8} (h : c ≠ d) {n : Int} (hn : (d.toNat : Int) = n) : ((c.toNat : Int) != n) = true := by
  unfold bne; rw [u8_ne h hn]; rfl

theorem sgOf_none {d : UInt8} (h : sgOf d = none) : d ≠ 62 ∧ d ≠ 43 ∧ d ≠ 42 ∧ d ≠ 38 ∧ d ≠ 124 := by
  refine ⟨?_, ?_, ?_, ?_, ?_⟩ <;> (rintro rfl; cases h)

/-- From place p on the text is r behind a formula that ends at place m. -/
def EndsAt (k : Nat) : Prop := ∀ (s : ByteArray) (p : Nat) (i : Int) (w : World), s.size ≤ 1048576 → i = (p : Int) → s.size ≤ p + k →
  Calls Tryz.prog 112 #[.string s, .int .i64 i] w fun e w' =>
    e = .returned (.int .i64 (match prs k ((bl s).drop p) with | none => -1 | some (_, r) => ((s.size : Int) - (r.length : Int)))) ∧ w = w'

theorem EndsAt.no {k : Nat} (H : EndsAt k) {s : ByteArray} {p : Nat} {i : Int} {w : World} (hs : s.size ≤ 1048576) (hi : i = (p : Int)) (hk : s.size ≤ p + k) (ho : prs k ((bl s).drop p) = none) :
    Calls Tryz.prog 112 #[.string s, .int .i64 i] w fun e w' => e = .returned (.int .i64 (-1)) ∧ w = w' := by
  have := H s p i w hs hi hk
  rw [ho] at this
  exact this
theorem EndsAt.yes {k : Nat} (H : EndsAt k) {s : ByteArray} {p : Nat} {i : Int} {w : World} (hs : s.size ≤ 1048576) (hi : i = (p : Int)) (hk : s.size ≤ p + k) {t : Tr} {r : List UInt8} (ho : prs k ((bl s).drop p) = some (t, r)) {m : Nat} (hm : m + r.length = s.size) :
    Calls Tryz.prog 112 #[.string s, .int .i64 i] w fun e w' => e = .returned (.int .i64 (m : Int)) ∧ w = w' := by
  have := H s p i w hs hi hk
  rw [ho] at this
  have e : (s.size : Int) - (r.length : Int) = (m : Int) := by omega
  simp only [e] at this
  exact this

theorem end_out (s : ByteArray) (p : Nat) (w : World) (h : s.size ≤ p) :
    Calls Tryz.prog 112 #[.string s, .int .i64 (p : Int)] w fun e w' => e = .returned (.int .i64 (-1)) ∧ w = w' := by
  go_enter Tryz.func112, Tryz.ntmps112
  go_wp2_with fail
  go_ret
  exact ⟨rfl, rfl⟩

theorem end_one (s : ByteArray) (p : Nat) (w : World) (hs : s.size ≤ 1048576) {c : UInt8} {r : List UInt8} (hc : c = 97 ∨ c = 98 ∨ c = 99 ∨ c = 48 ∨ c = 49) (h : (bl s).drop p = c :: r) :
    Calls Tryz.prog 112 #[.string s, .int .i64 (p : Int)] w fun e w' => e = .returned (.int .i64 ((p : Int) + 1)) ∧ w = w' := by
  have hlt : p < s.size := by rw [bl_size]; exact drop_lt h
  have hi := fun w => idx_run h w
  clear h
  rcases hc with rfl | rfl | rfl | rfl | rfl
  all_goals
    go_enter Tryz.func112, Tryz.ntmps112
    go_wp2_with fail
    go_ret
    exact ⟨rfl, rfl⟩

theorem end_neg_no {k : Nat} (H : EndsAt k) (s : ByteArray) (p : Nat) (w : World) (hs : s.size ≤ 1048576) (hk : s.size ≤ p + k + 1) {l : List UInt8} (h : (bl s).drop p = 33 :: l) (ho : prs k l = none) :
    Calls Tryz.prog 112 #[.string s, .int .i64 (p : Int)] w fun e w' => e = .returned (.int .i64 (-1)) ∧ w = w' := by
  have hlt : p < s.size := by rw [bl_size]; exact drop_lt h
  have hi := fun w => idx_run h w
  have c1 := H.no (i := (p : Int) + 1) (w := w) hs (by omega) (p := p + 1) (by omega) (by rw [drop_tail h]; exact ho)
  clear h H ho
  go_enter Tryz.func112, Tryz.ntmps112
  go_wp2_with fail
  refine c1.mono ?_
  rintro e w1 ⟨rfl, rfl⟩
  clear c1
  go_wp2_with fail
  go_ret
  exact ⟨rfl, rfl⟩

theorem end_neg_yes {k : Nat} (H : EndsAt k) (s : ByteArray) (p : Nat) (w : World) (hs : s.size ≤ 1048576) (hk : s.size ≤ p + k + 1) {l : List UInt8} (h : (bl s).drop p = 33 :: l) {t : Tr} {r : List UInt8} (ho : prs k l = some (t, r)) {m : Nat} (hm : m + r.length = s.size) :
    Calls Tryz.prog 112 #[.string s, .int .i64 (p : Int)] w fun e w' => e = .returned (.int .i64 (m : Int)) ∧ w = w' := by
  have hlt : p < s.size := by rw [bl_size]; exact drop_lt h
  have hi := fun w => idx_run h w
  have c1 := H.yes (i := (p : Int) + 1) (w := w) hs (by omega) (p := p + 1) (by omega) (by rw [drop_tail h]; exact ho) hm
  clear h H ho hm
  go_enter Tryz.func112, Tryz.ntmps112
  go_wp2_with fail
  refine c1.mono ?_
  rintro e w1 ⟨rfl, rfl⟩
  clear c1
  go_wp2_with fail
  go_ret
  exact ⟨rfl, rfl⟩

theorem end_other (s : ByteArray) (p : Nat) (w : World) {c : UInt8} {l : List UInt8} (h : (bl s).drop p = c :: l) (hc : PrsOther c) :
    Calls Tryz.prog 112 #[.string s, .int .i64 (p : Int)] w fun e w' => e = .returned (.int .i64 (-1)) ∧ w = w' := by
  have hlt : p < s.size := by rw [bl_size]; exact drop_lt h
  have hi := fun w => idx_run h w
  obtain ⟨n1, n2, n3, n4, n5, n6, n7⟩ := hc
  have e1 : ((c.toNat : Int) == 97) = false := u8_ne n1 (by decide)
  have e2 : ((c.toNat : Int) == 98) = false := u8_ne n2 (by decide)
  have e3 : ((c.toNat : Int) == 99) = false := u8_ne n3 (by decide)
  have e4 : ((c.toNat : Int) == 48) = false := u8_ne n4 (by decide)
  have e5 : ((c.toNat : Int) == 49) = false := u8_ne n5 (by decide)
  have e6 : ((c.toNat : Int) == 33) = false := u8_ne n6 (by decide)
  have e7 : ((c.toNat : Int) == 40) = false := u8_ne n7 (by decide)
  clear h n1 n2 n3 n4 n5 n6 n7
  go_enter Tryz.func112, Tryz.ntmps112
  go_wp2_with fail
  go_ret
  exact ⟨rfl, rfl⟩

theorem end_open1 {k : Nat} (H : EndsAt k) (s : ByteArray) (p : Nat) (w : World) (hs : s.size ≤ 1048576) (hk : s.size ≤ p + k + 1) {l : List UInt8} (h : (bl s).drop p = 40 :: l) (ho : prs k l = none) :
    Calls Tryz.prog 112 #[.string s, .int .i64 (p : Int)] w fun e w' => e = .returned (.int .i64 (-1)) ∧ w = w' := by
  have hlt : p < s.size := by rw [bl_size]; exact drop_lt h
  have hi := fun w => idx_run h w
  have c1 := H.no (i := (p : Int) + 1) (w := w) hs (by omega) (p := p + 1) (by omega) (by rw [drop_tail h]; exact ho)
  clear h H ho
  go_enter Tryz.func112, Tryz.ntmps112
  go_wp2_with fail
  refine c1.mono ?_
  rintro e w1 ⟨rfl, rfl⟩
  clear c1
  go_wp2_with fail
  go_ret
  exact ⟨rfl, rfl⟩

theorem end_open2 {k : Nat} (H : EndsAt k) (s : ByteArray) (p : Nat) (w : World) (hs : s.size ≤ 1048576) (hk : s.size ≤ p + k + 1) {l : List UInt8} (h : (bl s).drop p = 40 :: l) {x : Tr} (ho : prs k l = some (x, [])) :
    Calls Tryz.prog 112 #[.string s, .int .i64 (p : Int)] w fun e w' => e = .returned (.int .i64 (-1)) ∧ w = w' := by
  have hlt : p < s.size := by rw [bl_size]; exact drop_lt h
  have hi := fun w => idx_run h w
  have c1 := H.yes (i := (p : Int) + 1) (w := w) hs (by omega) (p := p + 1) (by omega) (by rw [drop_tail h]; exact ho) (m := s.size) (by simp)
  clear h H ho
  go_enter Tryz.func112, Tryz.ntmps112
  go_wp2_with fail
  refine c1.mono ?_
  rintro e w1 ⟨rfl, rfl⟩
  clear c1
  go_wp2_with fail
  go_ret
  exact ⟨rfl, rfl⟩

/-- Where a sign stands behind a first formula: its place. -/
theorem sign_place {s : ByteArray} {p k : Nat} {l : List UInt8} (h : (bl s).drop p = 40 :: l) {x : Tr} {r : List UInt8} (ho : prs k l = some (x, r)) :
    ∃ m : Nat, m + r.length = s.size ∧ (bl s).drop m = r ∧ p + 1 < m := by
  have hlt := drop_lt h
  have ht := drop_tail h
  have hx := prs_sound _ _ _ _ ho
  have hp := txt_pos x
  have e : (bl s).length - (p + 1) = x.txt.length + r.length := by rw [← List.length_drop, ht, hx, List.length_append]
  have hz := bl_size s
  refine ⟨s.size - r.length, by omega, ?_, by omega⟩
  exact drop_rest (p := p + 1) (ht.trans hx) (by omega) (by omega)

theorem end_open3 {k : Nat} (H : EndsAt k) (s : ByteArray) (p : Nat) (w : World) (hs : s.size ≤ 1048576) (hk : s.size ≤ p + k + 1) {l : List UInt8} (h : (bl s).drop p = 40 :: l) {x : Tr} {d : UInt8} {r : List UInt8} (ho : prs k l = some (x, d :: r)) (hd : sgOf d = none) :
    Calls Tryz.prog 112 #[.string s, .int .i64 (p : Int)] w fun e w' => e = .returned (.int .i64 (-1)) ∧ w = w' := by
  have hlt : p < s.size := by rw [bl_size]; exact drop_lt h
  obtain ⟨m, hm, hdm, hpm⟩ := sign_place h ho
  have hi := fun w => idx_run h w
  have hj := fun w => idx_run hdm w
  have c1 := H.yes (i := (p : Int) + 1) (w := w) hs (by omega) (p := p + 1) (by omega) (by rw [drop_tail h]; exact ho) hm
  have hmz : m < s.size := by simp at hm; omega
  obtain ⟨n1, n2, n3, n4, n5⟩ := sgOf_none hd
  have e1 : ((d.toNat : Int) != 62) = true := u8_neq n1 (by decide)
  have e2 : ((d.toNat : Int) != 43) = true := u8_neq n2 (by decide)
  have e3 : ((d.toNat : Int) != 42) = true := u8_neq n3 (by decide)
  have e4 : ((d.toNat : Int) != 38) = true := u8_neq n4 (by decide)
  have e5 : ((d.toNat : Int) != 124) = true := u8_neq n5 (by decide)
  clear h H ho hd hdm hm n1 n2 n3 n4 n5
  go_enter Tryz.func112, Tryz.ntmps112
  go_wp2_with fail
  refine c1.mono ?_
  rintro e w1 ⟨rfl, rfl⟩
  clear c1
  go_wp2_with fail
  go_ret
  exact ⟨rfl, rfl⟩

theorem end_open4 {k : Nat} (H : EndsAt k) (s : ByteArray) (p : Nat) (w : World) (hs : s.size ≤ 1048576) (hk : s.size ≤ p + k + 1) {l : List UInt8} (h : (bl s).drop p = 40 :: l) {x : Tr} {g : Sg} {r : List UInt8} (ho : prs k l = some (x, g.byte :: r)) (ho2 : prs k r = none) :
    Calls Tryz.prog 112 #[.string s, .int .i64 (p : Int)] w fun e w' => e = .returned (.int .i64 (-1)) ∧ w = w' := by
  have hlt : p < s.size := by rw [bl_size]; exact drop_lt h
  obtain ⟨m, hm, hdm, hpm⟩ := sign_place h ho
  have hi := fun w => idx_run h w
  have hj := fun w => idx_run hdm w
  have c1 := H.yes (i := (p : Int) + 1) (w := w) hs (by omega) (p := p + 1) (by omega) (by rw [drop_tail h]; exact ho) hm
  have hmz : m < s.size := by simp at hm; omega
  have c2 := H.no (i := (m : Int) + 1) (w := w) hs (by omega) (p := m + 1) (by omega) (by rw [drop_tail hdm]; exact ho2)
  clear h H ho ho2 hdm hm
  cases g
  all_goals
    unfold Sg.byte at hj
    go_enter Tryz.func112, Tryz.ntmps112
    go_wp2_with fail
    refine c1.mono ?_
    rintro e w1 ⟨rfl, rfl⟩
    go_wp2_with fail
    refine c2.mono ?_
    rintro e w1 ⟨rfl, rfl⟩
    go_wp2_with fail
    go_ret
    exact ⟨rfl, rfl⟩

theorem end_open5 {k : Nat} (H : EndsAt k) (s : ByteArray) (p : Nat) (w : World) (hs : s.size ≤ 1048576) (hk : s.size ≤ p + k + 1) {l : List UInt8} (h : (bl s).drop p = 40 :: l) {x y : Tr} {g : Sg} {r : List UInt8} (ho : prs k l = some (x, g.byte :: r)) (ho2 : prs k r = some (y, [])) :
    Calls Tryz.prog 112 #[.string s, .int .i64 (p : Int)] w fun e w' => e = .returned (.int .i64 (-1)) ∧ w = w' := by
  have hlt : p < s.size := by rw [bl_size]; exact drop_lt h
  obtain ⟨m, hm, hdm, hpm⟩ := sign_place h ho
  have hi := fun w => idx_run h w
  have hj := fun w => idx_run hdm w
  have c1 := H.yes (i := (p : Int) + 1) (w := w) hs (by omega) (p := p + 1) (by omega) (by rw [drop_tail h]; exact ho) hm
  have hmz : m < s.size := by simp at hm; omega
  have c2 := H.yes (i := (m : Int) + 1) (w := w) hs (by omega) (p := m + 1) (by omega) (by rw [drop_tail hdm]; exact ho2) (m := s.size) (by simp)
  clear h H ho ho2 hdm hm
  cases g
  all_goals
    unfold Sg.byte at hj
    go_enter Tryz.func112, Tryz.ntmps112
    go_wp2_with fail
    refine c1.mono ?_
    rintro e w1 ⟨rfl, rfl⟩
    go_wp2_with fail
    refine c2.mono ?_
    rintro e w1 ⟨rfl, rfl⟩
    go_wp2_with fail
    go_ret
    exact ⟨rfl, rfl⟩

theorem close_place {s : ByteArray} {m k : Nat} {d : UInt8} {r : List UInt8} (h : (bl s).drop m = d :: r) {y : Tr} {q : List UInt8} (ho : prs k r = some (y, q)) :
    ∃ n : Nat, n + q.length = s.size ∧ (bl s).drop n = q ∧ m + 1 < n := by
  have hlt := drop_lt h
  have ht := drop_tail h
  have hx := prs_sound _ _ _ _ ho
  have hp := txt_pos y
  have e : (bl s).length - (m + 1) = y.txt.length + q.length := by rw [← List.length_drop, ht, hx, List.length_append]
  have hz := bl_size s
  refine ⟨s.size - q.length, by omega, ?_, by omega⟩
  exact drop_rest (p := m + 1) (ht.trans hx) (by omega) (by omega)

theorem end_open6 {k : Nat} (H : EndsAt k) (s : ByteArray) (p : Nat) (w : World) (hs : s.size ≤ 1048576) (hk : s.size ≤ p + k + 1) {l : List UInt8} (h : (bl s).drop p = 40 :: l) {x y : Tr} {g : Sg} {c : UInt8} {r q : List UInt8} (ho : prs k l = some (x, g.byte :: r)) (ho2 : prs k r = some (y, c :: q)) (hc : c ≠ 41) :
    Calls Tryz.prog 112 #[.string s, .int .i64 (p : Int)] w fun e w' => e = .returned (.int .i64 (-1)) ∧ w = w' := by
  have hlt : p < s.size := by rw [bl_size]; exact drop_lt h
  obtain ⟨m, hm, hdm, hpm⟩ := sign_place h ho
  obtain ⟨n, hn, hdn, hmn⟩ := close_place hdm ho2
  have hi := fun w => idx_run h w
  have hj := fun w => idx_run hdm w
  have hl := fun w => idx_run hdn w
  have c1 := H.yes (i := (p : Int) + 1) (w := w) hs (by omega) (p := p + 1) (by omega) (by rw [drop_tail h]; exact ho) hm
  have hmz : m < s.size := by simp at hm; omega
  have hnz : n < s.size := by simp at hn; omega
  have c2 := H.yes (i := (m : Int) + 1) (w := w) hs (by omega) (p := m + 1) (by omega) (by rw [drop_tail hdm]; exact ho2) hn
  have e1 : ((c.toNat : Int) != 41) = true := u8_neq hc (by decide)
  clear h H ho ho2 hdm hm hdn hn hc
  cases g
  all_goals
    unfold Sg.byte at hj
    go_enter Tryz.func112, Tryz.ntmps112
    go_wp2_with fail
    refine c1.mono ?_
    rintro e w1 ⟨rfl, rfl⟩
    go_wp2_with fail
    refine c2.mono ?_
    rintro e w1 ⟨rfl, rfl⟩
    go_wp2_with fail
    all_goals first | (exfalso; omega) | (go_ret; exact ⟨rfl, rfl⟩)

theorem end_open7 {k : Nat} (H : EndsAt k) (s : ByteArray) (p : Nat) (w : World) (hs : s.size ≤ 1048576) (hk : s.size ≤ p + k + 1) {l : List UInt8} (h : (bl s).drop p = 40 :: l) {x y : Tr} {g : Sg} {r q : List UInt8} (ho : prs k l = some (x, g.byte :: r)) (ho2 : prs k r = some (y, 41 :: q)) {n : Nat} (hn : n + 1 + q.length = s.size) :
    Calls Tryz.prog 112 #[.string s, .int .i64 (p : Int)] w fun e w' => e = .returned (.int .i64 ((n : Int) + 1)) ∧ w = w' := by
  have hlt : p < s.size := by rw [bl_size]; exact drop_lt h
  obtain ⟨m, hm, hdm, hpm⟩ := sign_place h ho
  obtain ⟨n', hn', hdn, hmn⟩ := close_place hdm ho2
  obtain rfl : n' = n := by simp at hn'; omega
  have hi := fun w => idx_run h w
  have hj := fun w => idx_run hdm w
  have hl := fun w => idx_run hdn w
  have c1 := H.yes (i := (p : Int) + 1) (w := w) hs (by omega) (p := p + 1) (by omega) (by rw [drop_tail h]; exact ho) hm
  have hmz : m < s.size := by simp at hm; omega
  have hnz : n' < s.size := by omega
  have c2 := H.yes (i := (m : Int) + 1) (w := w) hs (by omega) (p := m + 1) (by omega) (by rw [drop_tail hdm]; exact ho2) hn'
  clear h H ho ho2 hdm hm hdn hn hn'
  cases g
  all_goals
    unfold Sg.byte at hj
    go_enter Tryz.func112, Tryz.ntmps112
    go_wp2_with fail
    refine c1.mono ?_
    rintro e w1 ⟨rfl, rfl⟩
    go_wp2_with fail
    refine c2.mono ?_
    rintro e w1 ⟨rfl, rfl⟩
    go_wp2_with fail
    all_goals first | (exfalso; omega) | (go_ret; exact ⟨rfl, rfl⟩)

theorem ends_at : ∀ k : Nat, EndsAt k := by
  intro k
  induction k with
  | zero =>
    intro s p i w hs hi hk
    subst hi
    exact end_out s p w (by omega)
  | succ k ih =>
    intro s p i w hs hi hk
    subst hi
    have hz := bl_size s
    cases h : (bl s).drop p with
    | nil =>
      have e := congrArg List.length h
      rw [List.length_drop] at e
      rw [prs_nil]
      exact end_out s p w (by simp at e; omega)
    | cons c l =>
      have hl : p + 1 + l.length = s.size := by
        have e := congrArg List.length h
        rw [List.length_drop] at e
        simp at e
        have := drop_lt h
        omega
      have ho1 : ∀ q : Int, q = (p : Int) + 1 → ((s.size : Int) - (l.length : Int)) = q := by intro q hq; omega
      rcases byte_cases c with rfl | rfl | rfl | rfl | rfl | rfl | rfl | ho
      · rw [prs_a]; simp only [ho1 _ rfl]; exact end_one s p w hs (.inl rfl) h
      · rw [prs_b]; simp only [ho1 _ rfl]; exact end_one s p w hs (.inr (.inl rfl)) h
      · rw [prs_c]; simp only [ho1 _ rfl]; exact end_one s p w hs (.inr (.inr (.inl rfl))) h
      · rw [prs_0]; simp only [ho1 _ rfl]; exact end_one s p w hs (.inr (.inr (.inr (.inl rfl)))) h
      · rw [prs_1]; simp only [ho1 _ rfl]; exact end_one s p w hs (.inr (.inr (.inr (.inr rfl)))) h
      · rw [prs_n]
        cases ho : prs k l with
        | none => exact end_neg_no ih s p w hs (by omega) h ho
        | some x =>
          obtain ⟨t, r⟩ := x
          have hr := prs_lt ho
          have e : ((s.size : Int) - (r.length : Int)) = ((s.size - r.length : Nat) : Int) := by omega
          simp only [e]
          exact end_neg_yes ih s p w hs (by omega) h ho (by omega)
      · rw [prs_p]
        unfold prp
        cases ho : prs k l with
        | none => exact end_open1 ih s p w hs (by omega) h ho
        | some x =>
          obtain ⟨x, r⟩ := x
          have hr := prs_lt ho
          cases r with
          | nil => exact end_open2 ih s p w hs (by omega) h ho
          | cons d r =>
            cases hd : sgOf d with
            | none => simp only [hd]; exact end_open3 ih s p w hs (by omega) h ho hd
            | some g =>
              have hdg := sgOf_some hd
              subst hdg
              simp only [hd]
              cases ho2 : prs k r with
              | none => exact end_open4 ih s p w hs (by omega) h ho ho2
              | some y =>
                obtain ⟨y, q⟩ := y
                have hq := prs_lt ho2
                cases q with
                | nil => exact end_open5 ih s p w hs (by omega) h ho ho2
                | cons c q =>
                  by_cases hc : c = 41
                  · subst hc
                    have e : ((s.size : Int) - (q.length : Int)) = ((s.size - q.length - 1 : Nat) : Int) + 1 := by simp at hq hr; omega
                    simp only [if_true, e]
                    exact end_open7 ih s p w hs (by omega) h ho ho2 (by simp at hq hr; omega)
                  · simp only [if_neg hc]
                    exact end_open6 ih s p w hs (by omega) h ho ho2 hc
      · rw [prs_o k l ho]; exact end_other s p w h ho

theorem sform_any (s : ByteArray) (w : World) :
    Calls Tryz.prog 74 #[.string s] w fun e w' => e = .returned (.bool (isF (bl s))) ∧ w = w' := by
  have hz := bl_size s
  by_cases hl : s.size ≤ 60
  · have d60 : decide ((s.size : Int) ≤ 60) = true := decide_eq_true (by omega)
    by_cases h0 : s.size = 0
    · have hs : bl s = [] := List.length_eq_zero_iff.1 (by omega)
      rw [hs]
      have e1 : isF [] = false := rfl
      have d0 : decide (0 < s.size) = false := decide_eq_false (by omega)
      rw [e1]
      clear hs e1 hz h0
      go_enter Tryz.func74, Tryz.ntmps74
      go_wp2_with fail
      go_ret
      exact ⟨rfl, rfl⟩
    · have d0 : decide (0 < s.size) = true := decide_eq_true (by omega)
      have hc := ends_at s.size s 0 0 w (by omega) rfl (by omega)
      have hf : isF (bl s) = match prs s.size (bl s) with | none => false | some (_, r) => decide (r = []) := by
        unfold isF
        rw [fOf_short (by omega)]
        unfold par
        rw [← hz]
        cases prs s.size (bl s) with
        | none => rfl
        | some x =>
          obtain ⟨t, r⟩ := x
          cases r <;> rfl
      rw [hf]
      rw [List.drop_zero] at hc
      clear hf
      cases ho : prs s.size (bl s) with
      | none =>
        rw [ho] at hc
        have hb : ((-1 : Int) == (s.size : Int)) = false := beq_eq_false_iff_ne.2 (by omega)
        clear ho hz
        go_enter Tryz.func74, Tryz.ntmps74
        go_wp2_with fail
        refine hc.mono ?_
        rintro e w1 ⟨rfl, rfl⟩
        go_wp2_with fail
        go_ret
        exact ⟨rfl, rfl⟩
      | some x =>
        obtain ⟨t, r⟩ := x
        rw [ho] at hc
        have hr := prs_lt ho
        cases r with
        | nil =>
          have e : ((s.size : Int) - (([] : List UInt8).length : Int)) = (s.size : Int) := by simp
          simp only [e] at hc
          clear e ho hz hr
          go_enter Tryz.func74, Tryz.ntmps74
          go_wp2_with fail
          refine hc.mono ?_
          rintro e w1 ⟨rfl, rfl⟩
          go_wp2_with fail
          go_ret
          exact ⟨rfl, rfl⟩
        | cons c r =>
          obtain ⟨m, hm⟩ : ∃ m : Nat, m + (c :: r).length = s.size := ⟨s.size - (c :: r).length, by omega⟩
          have e : ((s.size : Int) - ((c :: r).length : Int)) = (m : Int) := by omega
          simp only [e] at hc
          have hb : (m == s.size) = false := beq_eq_false_iff_ne.2 (by simp at hm; omega)
          have hb2 : ((m : Int) == (s.size : Int)) = false := beq_eq_false_iff_ne.2 (by simp at hm; omega)
          show Calls Tryz.prog 74 #[.string s] w fun e w' => e = .returned (.bool false) ∧ w = w'
          clear e ho hz hr hm
          go_enter Tryz.func74, Tryz.ntmps74
          go_wp2_with fail
          refine hc.mono ?_
          rintro e w1 ⟨rfl, rfl⟩
          go_wp2_with fail
          go_ret
          exact ⟨rfl, rfl⟩
  · have e1 : isF (bl s) = false := isF_f (fOf_long (by omega))
    have d0 : decide ((s.size : Int) ≤ 60) = false := decide_eq_false (by omega)
    rw [e1]
    clear e1 hz
    go_enter Tryz.func74, Tryz.ntmps74
    go_wp2_with fail
    go_ret
    exact ⟨rfl, rfl⟩

end Go.Proofs.YtlnffpofbfigaaaGreatDoor

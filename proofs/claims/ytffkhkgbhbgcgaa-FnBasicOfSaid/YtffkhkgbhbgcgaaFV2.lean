/-
  The walk of the law FnBasicOf.
-/
import Derived.Test.YtffkhkgbhbgcgaaFV1
import Derived.Test.YtffkhkgbhbgcgaaFBas
namespace Go.Proofs.Ytffkhkgbhbgcgaa
open Go.RowKit

theorem IsRow.grown {k : IntKind} {w w' : World} {a : Option Addr} {len cap : Nat} {zs : List Int} (h : IsRow k w a len cap zs) (hg : w.grownBy w' none) : IsRow k w' a len cap zs := by
  rcases h with h | ⟨x, ha, h1, h2, h3, h4, h5⟩
  · exact .inl h
  · exact .inr ⟨x, ha, h1, h2, h3, fun i hi => cell_grown (h4 i hi) hg, h5⟩

theorem basic_is (s : ByteArray) {X : ByteArray} {b : Bool} (h : bbT (bl s) = X) (hb : basB (bl s) = b) (w : World) :
    Calls Try.prog 16 #[.string s] w fun e w' => e = .returned (.tuple #[.string X, .bool b]) ∧ w.grownBy w' none := by rw [← h, ← hb]; exact basic_any s w
theorem sbasic_is (s : ByteArray) {X : ByteArray} {b : Bool} (h : bbT (bl s) = X) (hb : basB (bl s) = b) (w : World) :
    Calls Try.prog 17 #[.string s] w fun e w' => e = .returned (.tuple #[.string X, .bool b]) ∧ w = w' := by rw [← h, ← hb]; exact sbasic_any s w

/-- No byte of it is one that the law forbids. -/
theorem byte_fine {X : ByteArray} (h : allB (bl X) = true) {k : Nat} (hk : k < X.size) :
    ((X[k].toNat : Int) == 33) = false ∧ ((X[k].toNat : Int) == 43) = false ∧ ((X[k].toNat : Int) == 42) = false ∧ ((X[k].toNat : Int) == 38) = false ∧ ((X[k].toNat : Int) == 124) = false ∧ ((X[k].toNat : Int) == 49) = false := by
  have hm : isB X[k] = true := by
    unfold allB at h
    rw [List.all_eq_true] at h
    refine h _ ?_
    have e : (bl X)[k]? = some X[k] := by
      unfold bl
      rw [List.getElem?_eq_getElem (by rw [← Lib.size_eq]; exact hk)]
      rfl
    exact List.mem_of_getElem? e
  generalize X[k] = c at *
  unfold isB at hm
  simp only [Bool.not_eq_true', Bool.or_eq_false_iff, beq_eq_false_iff_ne] at hm
  obtain ⟨⟨⟨⟨⟨h1, h2⟩, h3⟩, h4⟩, h5⟩, h6⟩ := hm
  exact ⟨u8_ne h1 rfl, u8_ne h2 rfl, u8_ne h3 rfl, u8_ne h4 rfl, u8_ne h5 rfl, u8_ne h6 rfl⟩

/-- What the law asks of a formula that can be written so. -/
theorem basic_facts {s : ByteArray} (h : basB (bl s) = true) :
    ∃ X : ByteArray, bbT (bl s) = X ∧ allB (bl X) = true ∧ X.size ≤ 60 ∧ isF (bl X) = true ∧ bbT (bl X) = X ∧ basB (bl X) = true ∧ ∀ n a b c, valI n (bl X) a b c = valI n (bl s) a b c := by
  obtain ⟨t, ht, hl, hx⟩ := basB_of h
  have hX : bl (bbT (bl s)) = t.bas.txt := by show basT (bl s) = _; exact hx
  have ho : fOf t.bas.txt = some t.bas := fOf_txt hl
  refine ⟨bbT (bl s), rfl, ?_, ?_, ?_, ?_, ?_, ?_⟩
  · rw [hX]; exact allB_bas t
  · rw [bl_size, hX]; exact hl
  · rw [hX]; exact isF_t ho
  · apply bl_inj
    rw [hX]
    show basT t.bas.txt = _
    rw [basT_t ho, bas_bas, lim_t hl]
  · rw [hX, basB_t ho, bas_bas]; exact decide_eq_true hl
  · intro n a b c
    rw [hX]
    cases hc : thrB n a b c
    · rw [valI_f hc, valI_f hc]
    · rw [valI_t ho hc, valI_t ht hc, val_bas hc]

set_option maxRecDepth 100000 in
set_option maxHeartbeats 2000000 in
theorem FnBasicOf_walk (a0 : Option Addr) (len0 cap0 : Nat) (z0 : List Int) (a1 : Option Addr) (len1 cap1 : Nat) (z1 : List Int) (w : World) (w0 : IsRow .u8 w a0 len0 cap0 z0) (w1 : IsRow .u8 w a1 len1 cap1 z1) :
    Calls Try.prog 3 #[.slice a0 len0 cap0, .slice a1 len1 cap1] w fun e w' => e = .returned (.bool true) ∧ Below w.heap.size w w' := by
  by_cases hl : (1048576 : Int) < (len0 : Int)
  · clear w0 w1
    go_enter Try.func3, Try.ntmps3
    go_wp2_with fail
    go_ret
    exact ⟨rfl, Below.refl _ _⟩
  · by_cases hl1 : (1048576 : Int) < (len1 : Int)
    · clear w0 w1
      go_enter Try.func3, Try.ntmps3
      go_wp2_with fail
      go_ret
      exact ⟨rfl, Below.refl _ _⟩
    · have W0 := Lib.hid w0
      have W1 := Lib.hid w1
      clear w0 w1
      go_enter Try.func3, Try.ntmps3
      go_wp2_with fail
      refine (DrawBasicOf_any _ _ _ _ _ W0.out).mono ?_
      rintro e w1 ⟨s, rfl, hs, g1⟩
      clear W0
      cases hb : basB (bl s)
      · have e1 : bbT (bl s) = ⟨#[]⟩ := by unfold bbT; rw [basT_no hb]
        have c1 := basic_is s e1 hb
        have c2 := sbasic_is s e1 hb
        clear e1 hb W1
        go_wp2_with fail
        refine (c1 _).mono ?_
        rintro e w2 ⟨rfl, g2⟩
        go_wp2_with fail
        refine (c2 _).mono ?_
        rintro e w3 ⟨rfl, rfl⟩
        clear c1 c2
        go_wp2_with (go_at_call 18; refine (alive_any _).mono ?_; rintro e w' ⟨rfl, rfl⟩)
        go_ret
        exact ⟨rfl, below_of (grownBy_trans g1 g2)⟩
      · obtain ⟨X, x1, x2, x3, x4, x5, x6, x7⟩ := basic_facts hb
        have c1 := basic_is s x1 hb
        have c2 := sbasic_is s x1 hb
        have c3 := basic_is X x5 x6
        have c4 := form_is X x4
        have c5 : ∀ (n a b c : Int) (w : World), Calls Try.prog 21 #[.int .i64 n, .string X, .int .i64 a, .int .i64 b, .int .i64 c] w fun e w' => e = .returned (.int .i64 (valI n (bl s) a b c)) ∧ w.grownBy w' none := fun n a b c w => value_is X (x7 n a b c) w
        have HX := Lib.hid x2
        have C3 := Lib.hid c3
        have C4 := Lib.hid c4
        have C5 := Lib.hid c5
        clear x1 x2 x4 x5 x6 x7 hb c3 c4 c5
        go_wp2_with fail
        refine (c1 _).mono ?_
        rintro e w2 ⟨rfl, g2⟩
        go_wp2_with fail
        refine (c2 _).mono ?_
        rintro e w3 ⟨rfl, rfl⟩
        clear c1 c2
        go_wp2_with fail
        go_loop [10] (fun i => ∃ k : Nat, k ≤ X.size ∧ i = .int .i64 k) (fun i => X.size - (intOf i).toNat)
        case atStart => exact ⟨0, Nat.zero_le _, rfl⟩
        case round =>
          obtain ⟨k, hk, rfl⟩ := hrel
          by_cases hlt : k < X.size
          · obtain ⟨e1, e2, e3, e4, e5, e6⟩ := byte_fine HX.out hlt
            go_wp2_with fail
            go_round
            case rel => exact ⟨k + 1, by omega, by go_num⟩
            case measure => simp [intOf]; omega
          · obtain rfl : k = X.size := by omega
            have g12 := grownBy_trans g1 g2
            clear g1 g2
            go_wp2_with fail
            refine (DrawValueAt_any _ _ _ _ _ (W1.out.grown g12)).mono ?_
            rintro e w3 ⟨n, u, a, b, c, rfl, _, _, _, _, _, _, _, _, _, g3⟩
            clear W1
            go_wp2_with fail
            refine (C3.out _).mono ?_
            rintro e w4 ⟨rfl, g4⟩
            clear C3
            go_wp2_with fail
            refine (C4.out _).mono ?_
            rintro e w5 ⟨rfl, g5⟩
            clear C4
            go_wp2_with fail
            refine (C5.out _ _ _ _ _).mono ?_
            rintro e w6 ⟨rfl, g6⟩
            clear C5
            go_wp2_with fail
            refine (value_any _ _ _ _ _ _).mono ?_
            rintro e w7 ⟨rfl, g7⟩
            go_wp2_with fail
            go_ret
            exact ⟨rfl, below_of (grownBy_trans (grownBy_trans (grownBy_trans (grownBy_trans (grownBy_trans g12 g3) g4) g5) g6) g7)⟩

end Go.Proofs.Ytffkhkgbhbgcgaa

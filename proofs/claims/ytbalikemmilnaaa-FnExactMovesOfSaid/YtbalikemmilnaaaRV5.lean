/-
  The walk of the law FnMovesOf, out of what the functions answer.
-/
import Derived.Test.YtbalikemmilnaaaRC
import Derived.Test.YtbalikemmilnaaaRDraw2
import Derived.Test.YtbalikemmilnaaaFLet
import Derived.Test.YtbalikemmilnaaaFSpec
namespace Go.Proofs.Ytbalikemmilnaaa
open Go.RowKit

theorem one_a : ([1, 2, 3, 4, 5, 6].all fun n : Nat => (movI n [97] == 1) && (decide (n < 2) || movI n [40, 97, 43, 97, 41] == 2)) = true := by decide +kernel
theorem one_mv {N : Nat} (hN : 1 ≤ N ∧ N ≤ 6) : movI N [97] = 1 ∧ (¬ N < 2 → movI N [40, 97, 43, 97, 41] = 2) := by
  have h := List.all_eq_true.1 one_a N (by simp; omega)
  rw [Bool.and_eq_true] at h
  refine ⟨by simpa using h.1, fun h2 => ?_⟩
  have := h.2
  rw [decide_eq_false h2] at this
  simpa using this
def hasA (l : List UInt8) (k : Nat) : Bool := (l.take k).any fun c => c == 97
theorem hasA_next {l r : List UInt8} {k : Nat} {c : UInt8} (h : l.drop k = c :: r) : hasA l (k + 1) = (hasA l k || c == 97) := by
  unfold hasA
  have hl : l[k]? = some c := by rw [← List.head?_drop, h]; rfl
  rw [List.take_add_one, hl, List.any_append]
  simp
theorem hasA_all {l : List UInt8} (h : hasA l l.length = false) : (97 : UInt8) ∉ l := fun hm => by
  unfold hasA at h
  rw [List.take_length, List.any_eq_false] at h
  exact h 97 hm rfl
theorem lets_v (s : ByteArray) {n : Int} (h : lsI (bl s) = n) (w : World) : Calls Try.prog 40 #[.string s] w fun e w' => e = .returned (.int .i64 n) ∧ w.grownBy w' none := by rw [← h]; exact letters_any s w
theorem movI_neg {n : Int} {l : List UInt8} (h : movI n l < 0) : movI n l = -1 := by
  cases hi : inB n 1 6
  · exact movI_o hi
  · cases ho : fOf l with
    | none => exact movI_n ho
    | some t =>
      obtain ⟨N, rfl, hN⟩ := nat_of hi
      rw [movI_t ho hi] at h
      have := movU_pos N t (cub N)
      omega
theorem movI_pos {n : Int} {l : List UInt8} (h : ¬ movI n l < 0) : ∃ (N : Nat) (t : Tr), n = N ∧ (1 ≤ N ∧ N ≤ 6) ∧ fOf l = some t ∧ movI n l = movU N t (cub N) := by
  cases hi : inB n 1 6
  · rw [movI_o hi] at h; omega
  · cases ho : fOf l with
    | none => rw [movI_n ho] at h; omega
    | some t =>
      obtain ⟨N, rfl, hN⟩ := nat_of hi
      exact ⟨N, t, rfl, hN, rfl, movI_t ho hi⟩
def HvRel (l : List UInt8) (w : World) (h i : Value) (wr : World) : Prop := ∃ k : Nat, k ≤ l.length ∧ i = .int .i64 k ∧ h = .bool (hasA l k) ∧ w.grownBy wr none

set_option maxRecDepth 100000 in
set_option maxHeartbeats 4000000 in
theorem FnMovesOf_of (H : MovC) (a0 : Option Addr) (len0 cap0 : Nat) (z0 : List Int) (w : World) (w0 : IsRow .u8 w a0 len0 cap0 z0) :
    Calls Try.prog 8 #[.slice a0 len0 cap0] w fun e w' => e = .returned (.bool true) ∧ Below w.heap.size w w' := by
  by_cases hl : (1048576 : Int) < (len0 : Int)
  · clear w0
    go_enter Try.func8, Try.ntmps8
    go_wp2_with fail
    go_ret
    exact ⟨rfl, Below.refl _ _⟩
  · go_enter Try.func8, Try.ntmps8
    go_wp2_with fail
    refine (DrawMovesOf_any _ _ _ _ _ w0).mono ?_
    rintro e w1 ⟨n, s, rfl, s60, n1, n2, g1⟩
    clear w0
    have c1 := mov_v H n s (v := movI n (bl s)) rfl
    have c2 := smov_any n s
    by_cases hneg : movI n (bl s) < 0
    · have hm := movI_neg hneg
      rw [hm] at c1 c2
      clear hm hneg
      go_wp2_with fail
      refine (c1 _).mono ?_
      rintro e w2 ⟨rfl, g2⟩
      clear c1
      go_wp2_with fail
      refine (c2 _).mono ?_
      rintro e w3 ⟨rfl, g3⟩
      clear c2
      go_wp2_with (go_at_call 18; refine (alive_any _).mono ?_; rintro e w' ⟨rfl, rfl⟩)
      go_ret
      exact ⟨rfl, below_of (grownBy_trans g1 (grownBy_trans g2 g3))⟩
    · obtain ⟨N, t, rfl, hN, ho, hm⟩ := movI_pos hneg
      rw [hm] at c1 c2
      have c3 := lets_v s (lsI_t ho)
      have c4 := mov_v H N ⟨#[97]⟩ (one_mv hN).1
      have c5 : Hid (¬ N < 2 → ∀ w, Calls Try.prog 38 #[.int .i64 N, .string ⟨#[40, 97, 43, 97, 41]⟩] w fun e w' => e = .returned (.int .i64 2) ∧ w.grownBy w' none) := fun h2 => mov_v H N ⟨#[40, 97, 43, 97, 41]⟩ ((one_mv hN).2 h2)
      have m0 := movU_pos N t (cub N)
      have m1 := movU_le hN t (cub N) (Nat.le_refl _)
      have hno : Hid (hasA (bl s) (bl s).length = false → movU N t (cub N) = 0) := fun h => movU_noA N t (by rw [← (fOf_some ho).1]; exact hasA_all h) _
      have hsz := bl_size s
      clear ho hm hneg
      generalize movU N t (cub N) = M at *
      have hMn : (M != M) = false := by simp
      have hML : decide (M ≤ (t.ls : Int)) = true := decide_eq_true m1
      go_wp2_with fail
      refine (c1 _).mono ?_
      rintro e w2 ⟨rfl, g2⟩
      clear c1
      go_wp2_with fail
      refine (c2 _).mono ?_
      rintro e w3 ⟨rfl, g3⟩
      clear c2
      go_wp2_with fail
      go_loopw [6, 7] (fun h i wr => HvRel (bl s) w1 h i wr) (fun _ i _ => s.size - (intOf i).toNat)
      case atStart => exact ⟨0, by omega, rfl, rfl, grownBy_trans g2 g3⟩
      case round =>
        obtain ⟨k, hk, rfl, rfl, hgr⟩ := hrel
        by_cases hlt : k < (bl s).length
        · obtain ⟨c, r, hd⟩ : ∃ c r, (bl s).drop k = c :: r := ⟨_, _, List.drop_eq_getElem_cons hlt⟩
          have hi := fun w => idx_run hd w
          have hn := Lib.hid (hasA_next hd)
          have Hs := Lib.hid hsz
          have hlt2 : k < s.size := by omega
          clear hd hsz
          cases hb : hasA (bl s) k
          · by_cases hc : c = 97
            · have h97 : ((c.toNat : Int) == 97) = true := by subst hc; decide
              go_wp2
              go_roundw
              case rel => exact ⟨k + 1, by omega, by go_num, by rw [hn.out, hb, hc]; rfl, hgr⟩
              case measure => simp [intOf]; omega
            · have h97 : ((c.toNat : Int) == 97) = false := u8_ne hc (by decide)
              go_wp2
              go_roundw
              case rel => exact ⟨k + 1, by omega, by go_num, by rw [hn.out, hb]; simp [hc], hgr⟩
              case measure => simp [intOf]; omega
          · go_wp2
            go_roundw
            case rel => exact ⟨k + 1, by omega, by go_num, by rw [hn.out, hb]; rfl, hgr⟩
            case measure => simp [intOf]; omega
        · have hke : k = (bl s).length := by omega
          have hks : k = s.size := by omega
          have hz : Hid (hasA (bl s) k = false → M = 0) := fun h => hno.out (by rw [← hke]; exact h)
          clear hke hno hsz hlt hk
          subst hks
          generalize hasA (bl s) s.size = B at *
          go_wp2_with fail
          refine (c3 _).mono ?_
          rintro e w4 ⟨rfl, g4⟩
          clear c3
          go_wp2_with fail
          refine (c4 _).mono ?_
          rintro e w5 ⟨rfl, g5⟩
          clear c4
          replace hgr := grownBy_trans hgr (grownBy_trans g4 g5)
          clear g4 g5
          by_cases h2 : N < 2
          · clear c5
            have d2 : decide ((N : Int) < 2) = true := decide_eq_true (by omega)
            cases B
            · have hM0 : (M == 0) = true := by rw [hz.out rfl]; rfl
              clear hz
              go_wp2_with fail
              go_ret
              exact ⟨rfl, below_of (grownBy_trans g1 hgr)⟩
            · clear hz
              go_wp2_with fail
              go_ret
              exact ⟨rfl, below_of (grownBy_trans g1 hgr)⟩
          · have c6 := c5.out h2
            clear c5
            have d2 : decide ((N : Int) < 2) = false := decide_eq_false (by omega)
            cases B
            · have hM0 : (M == 0) = true := by rw [hz.out rfl]; rfl
              clear hz
              go_wp2_with fail
              refine (c6 _).mono ?_
              rintro e w6 ⟨rfl, g6⟩
              clear c6
              go_wp2_with fail
              go_ret
              exact ⟨rfl, below_of (grownBy_trans g1 (grownBy_trans hgr g6))⟩
            · clear hz
              go_wp2_with fail
              refine (c6 _).mono ?_
              rintro e w6 ⟨rfl, g6⟩
              clear c6
              go_wp2_with fail
              go_ret
              exact ⟨rfl, below_of (grownBy_trans g1 (grownBy_trans hgr g6))⟩

end Go.Proofs.Ytbalikemmilnaaa

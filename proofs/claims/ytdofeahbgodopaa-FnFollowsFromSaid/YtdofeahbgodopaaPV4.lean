/-
  The walk of the law FnFollowsFrom.
-/
import Derived.Test.YtdofeahbgodopaaPV1
import Derived.Test.YtdofeahbgodopaaAAlw
namespace Go.Proofs.Ytdofeahbgodopaa
open Go.RowKit

theorem sleast_v (n : Int) (s : ByteArray) {v : Int} (h : leastI n (bl s) = v) (w : World) :
    Calls Try.prog 20 #[.int .i64 n, .string s] w fun e w' => e = .returned (.int .i64 v) ∧ w.grownBy w' none := by rw [← h]; exact sleast_any n s w
theorem always_v (n : Int) (s : ByteArray) {v : Bool} (h : alwB n (bl s) = v) (w : World) :
    Calls Try.prog 21 #[.int .i64 n, .string s] w fun e w' => e = .returned (.bool v) ∧ w.grownBy w' none := by rw [← h]; exact always_any n s w
/-- Each premise follows. -/
theorem ff_each {N : Nat} (hN : 1 ≤ N ∧ N ≤ 6) {ss : List ByteArray} {ts : List Tr} (ho : prOf (ss.map bl) = some ts) {k : Nat} (hk : k < ss.length) : folI N (ss.map bl) (bl (ss.getD k nilS)) = true := by
  obtain ⟨t, h1, h2⟩ := fsOf_at (prOf_of ho).2 k (by simpa using hk)
  rw [show (ss.map bl).getD k [] = bl (ss.getD k nilS) by simp [List.getD_eq_getElem?_getD, hk]] at h2
  rw [folI_t ho h2 (inB_nat hN)]
  exact folK_mem (List.mem_of_getElem? h1)
theorem ff_tail {N : Nat} (hN : 1 ≤ N ∧ N ≤ 6) {l m : List UInt8} {ls : List (List UInt8)} {ts : List Tr} {t : Tr} (ho : prOf (l :: ls) = some ts) (ht : fOf m = some t) (hf : folK N ts t = false) : folI N ls m = false := by
  obtain ⟨x, us, _, h2, rfl⟩ := prOf_tail ho
  rw [folI_t h2 ht (inB_nat hN)]
  cases h : folK N us t
  · rfl
  · rw [folK_tail h] at hf; cases hf

def FvRel (L : Nat) (w : World) (i : Value) (wr : World) : Prop := ∃ k : Nat, k ≤ L ∧ i = .int .i64 k ∧ w.grownBy wr none

set_option maxRecDepth 100000 in
set_option maxHeartbeats 4000000 in
/-- Where there are premises and a formula: behind both first answers. -/
theorem FnFollowsFrom_walk (a0 : Option Addr) (len0 cap0 : Nat) (z0 : List Int) (w : World) (w0 : IsRow .u8 w a0 len0 cap0 z0) :
    Calls Try.prog 4 #[.slice a0 len0 cap0] w fun e w' => e = .returned (.bool true) ∧ Below w.heap.size w w' := by
  by_cases hl : (1048576 : Int) < (len0 : Int)
  · clear w0
    go_enter Try.func4, Try.ntmps4
    go_wp2_with fail
    go_ret
    exact ⟨rfl, Below.refl _ _⟩
  · go_enter Try.func4, Try.ntmps4
    go_wp2_with fail
    refine (DrawFollowsFrom_any _ _ _ _ _ w0).mono ?_
    rintro e w1 ⟨n, ss, a, cap, s, rfl, n1, n2, h4, hcap, hsz, hS, hs, g1⟩
    clear w0 hsz
    have HS := Lib.hid hS
    clear hS
    cases ho : prOf (ss.map bl) with
    | none =>
      have c1 := ff_is n a cap ss s (folI_p ho)
      have c2 := sff_is n a cap ss s (folI_p ho)
      have c3 := sprem_is a cap ss (premB_f ho)
      clear ho
      go_wp2_with fail
      refine (c1 _ HS.out).mono ?_
      rintro e w2 ⟨rfl, g2⟩
      clear c1
      go_wp2_with fail
      refine (c2 _ (HS.out.grown g2)).mono ?_
      rintro e w3 ⟨rfl, g3⟩
      clear c2
      go_wp2_with fail
      refine (c3 _ (HS.out.grown (grownBy_trans g2 g3))).mono ?_
      rintro e w4 ⟨rfl, rfl⟩
      clear c3
      go_wp2_with (go_at_call 16; refine (alive_any _).mono ?_; rintro e w' ⟨rfl, rfl⟩)
      go_ret
      exact ⟨rfl, below_of (grownBy_trans g1 (grownBy_trans g2 g3))⟩
    | some ts =>
      by_cases hno : inB n 1 6 = false ∨ fOf (bl s) = none
      · have hf : folI n (ss.map bl) (bl s) = false := by
          rcases hno with h | h
          · exact folI_o h
          · exact folI_n h
        have hle : leastI n (bl s) = -1 := by
          rcases hno with h | h
          · exact leastI_o h
          · exact leastI_n h
        have c1 := ff_is n a cap ss s hf
        have c2 := sff_is n a cap ss s hf
        have c3 := sprem_is a cap ss (premB_t ho)
        have c4 := sleast_v n s hle
        clear ho hno hf hle
        go_wp2_with fail
        refine (c1 _ HS.out).mono ?_
        rintro e w2 ⟨rfl, g2⟩
        clear c1
        go_wp2_with fail
        refine (c2 _ (HS.out.grown g2)).mono ?_
        rintro e w3 ⟨rfl, g3⟩
        clear c2
        go_wp2_with fail
        refine (c3 _ (HS.out.grown (grownBy_trans g2 g3))).mono ?_
        rintro e w4 ⟨rfl, rfl⟩
        clear c3
        go_wp2_with fail
        refine (c4 _).mono ?_
        rintro e w5 ⟨rfl, g5⟩
        clear c4
        go_wp2_with (go_at_call 16; refine (alive_any _).mono ?_; rintro e w' ⟨rfl, rfl⟩)
        go_ret
        exact ⟨rfl, below_of (grownBy_trans g1 (grownBy_trans g2 (grownBy_trans g3 g5)))⟩
      · have hi : inB n 1 6 = true := by
          cases h : inB n 1 6
          · exact absurd (.inl h) hno
          · rfl
        obtain ⟨t, ht⟩ : ∃ t, fOf (bl s) = some t := by
          cases h : fOf (bl s) with
          | none => exact absurd (.inr h) hno
          | some t => exact ⟨t, rfl⟩
        obtain ⟨N, rfl, hN⟩ := nat_of hi
        have l0 : 0 ≤ lowU N t (cub N) := by have := vokB_of (lowU_ok hN t (cub N)); omega
        have c3 := sprem_is a cap ss (premB_t ho)
        have c4 := sleast_v N s (leastI_t ht hi)
        have c5 := fun (w : World) (b : Nat) => ff_is N (some ⟨b, 0, none⟩) 0 [] s (v := alwT N t) (by rw [folI_t (n := N) nil_prem ht hi, folK_nil]) w (StrsAt.nil _ _)
        have c6 := always_v N s (alwB_t ht hi)
        have ce : Hid (∀ k, k < ss.length → ∀ w, StrsAt w a ss → Calls Try.prog 18 #[.int .i64 N, .slice a ss.length cap, .string (ss.getD k nilS)] w fun e w' => e = .returned (.bool true) ∧ w.grownBy w' none) := fun k hk => ff_is N a cap ss (ss.getD k nilS) (ff_each hN ho hk)
        have hAA : (alwT N t == alwT N t) = true := by simp
        cases hF : folK N ts t
        · have c1 := ff_is N a cap ss s ((folI_t ho ht hi).trans hF)
          have c2 := sff_is N a cap ss s ((folI_t ho ht hi).trans hF)
          cases ss with
          | nil =>
            clear hno hi ho ht hF ce
            generalize lowU N t (cub N) = L at *
            generalize alwT N t = A at *
            go_wp2_with fail
            refine (c1 _ HS.out).mono ?_
            rintro e w2 ⟨rfl, g2⟩
            clear c1
            go_wp2_with fail
            refine (c2 _ (HS.out.grown g2)).mono ?_
            rintro e w3 ⟨rfl, g3⟩
            clear c2
            go_wp2_with fail
            refine (c3 _ (HS.out.grown (grownBy_trans g2 g3))).mono ?_
            rintro e w4 ⟨rfl, rfl⟩
            clear c3
            go_wp2_with fail
            refine (c4 _).mono ?_
            rintro e w5 ⟨rfl, g5⟩
            clear c4
            have gg5 := grownBy_trans (grownBy_trans g2 g3) g5
            clear g2 g3 g5
            go_wp2_with fail
            go_loopw [7] (fun i wr => FvRel 0 w1 i wr) (fun _ _ => 0)
            case atStart => exact ⟨0, by omega, rfl, gg5⟩
            case round =>
              obtain ⟨k, hk, rfl, hgr⟩ := hrel
              obtain rfl : k = 0 := by omega
              go_wp2_with fail
              refine (c5 _ _).mono ?_
              rintro e w6 ⟨rfl, g6⟩
              clear c5
              go_wp2_with fail
              refine (c6 _).mono ?_
              rintro e w7 ⟨rfl, g7⟩
              clear c6
              have gg7 := grownBy_trans hgr (grownBy_trans (grownBy_trans (World.grownBy_alloc wr (.cells #[] 9) none) g6) g7)
              go_wp2_with fail
              all_goals (go_ret; exact ⟨rfl, below_of (grownBy_trans g1 gg7)⟩)
          | cons s0 ss =>
            obtain ⟨b, off, rfl⟩ := HS.out.cons
            have c7 := ff_is N (some ⟨b, off + 1, none⟩) (cap - 1) ss s (ff_tail hN ho ht hF)
            have c8 : ∀ w, StrsAt w (some ⟨b, off, none⟩) ss → Calls Try.prog 18 #[.int .i64 N, .slice (some ⟨b, off, none⟩) ss.length 0, .string s] w fun e w' => e = .returned (.bool false) ∧ w.grownBy w' none := ff_is N (some ⟨b, off, none⟩) 0 ss s (ff_tail hN ho ht hF)
            clear hno hi ho ht hF
            generalize lowU N t (cub N) = L at *
            generalize alwT N t = A at *
            simp only [List.length_cons] at h4 hcap c1 c2 c3
            go_wp2_with fail
            refine (c1 _ HS.out).mono ?_
            rintro e w2 ⟨rfl, g2⟩
            clear c1
            go_wp2_with fail
            refine (c2 _ (HS.out.grown g2)).mono ?_
            rintro e w3 ⟨rfl, g3⟩
            clear c2
            go_wp2_with fail
            refine (c3 _ (HS.out.grown (grownBy_trans g2 g3))).mono ?_
            rintro e w4 ⟨rfl, rfl⟩
            clear c3
            go_wp2_with fail
            refine (c4 _).mono ?_
            rintro e w5 ⟨rfl, g5⟩
            clear c4
            have gg5 := grownBy_trans (grownBy_trans g2 g3) g5
            clear g2 g3 g5
            go_wp2_with fail
            go_loopw [7] (fun i wr => FvRel (ss.length + 1) w1 i wr) (fun i _ => ss.length + 1 - (intOf i).toNat)
            case atStart => exact ⟨0, by omega, rfl, gg5⟩
            case round =>
              obtain ⟨k, hk, rfl, hgr⟩ := hrel
              by_cases hlt : k < ss.length + 1
              · have hst := HS.out.grown hgr
                have cek := ce.out k (by simpa using hlt) wr hst
                rcases hst.2 with h0 | ⟨bx, ox, hbx, _, hcx⟩
                · cases h0
                cases hbx
                have hck := hcx k (by simpa using hlt)
                simp only [List.length_cons] at cek
                clear hst hcx
                generalize (s0 :: ss).getD k nilS = q at *
                go_wp2_with fail
                refine cek.mono ?_
                rintro e w6 ⟨rfl, g6⟩
                clear cek
                go_wp2_with fail
                go_roundw
                case rel => exact ⟨k + 1, by omega, by go_num, grownBy_trans hgr g6⟩
                case measure => simp [intOf]; omega
              · obtain rfl : k = ss.length + 1 := by omega
                clear ce
                go_wp2_with fail
                refine (c5 _ _).mono ?_
                rintro e w6 ⟨rfl, g6⟩
                clear c5
                go_wp2_with fail
                refine (c6 _).mono ?_
                rintro e w7 ⟨rfl, g7⟩
                clear c6
                have gg7 := grownBy_trans hgr (grownBy_trans (grownBy_trans (World.grownBy_alloc wr (.cells #[] 9) none) g6) g7)
                go_wp2_with fail
                · obtain rfl : ss = [] := List.length_eq_zero_iff.1 (by omega)
                  refine (c8 _ (StrsAt.nil _ _)).mono ?_
                  rintro e w8 ⟨rfl, g8⟩
                  clear c8
                  go_wp2_with fail
                  go_ret
                  exact ⟨rfl, below_of (grownBy_trans g1 (grownBy_trans gg7 g8))⟩
                · refine (c7 _ (HS.out.grown gg7).tail).mono ?_
                  rintro e w8 ⟨rfl, g8⟩
                  clear c7
                  go_wp2_with fail
                  go_ret
                  exact ⟨rfl, below_of (grownBy_trans g1 (grownBy_trans gg7 g8))⟩
        · have c1 := ff_is N a cap ss s ((folI_t ho ht hi).trans hF)
          have c2 := sff_is N a cap ss s ((folI_t ho ht hi).trans hF)
          cases ss with
          | nil =>
            clear hno hi ho ht hF ce
            generalize lowU N t (cub N) = L at *
            generalize alwT N t = A at *
            go_wp2_with fail
            refine (c1 _ HS.out).mono ?_
            rintro e w2 ⟨rfl, g2⟩
            clear c1
            go_wp2_with fail
            refine (c2 _ (HS.out.grown g2)).mono ?_
            rintro e w3 ⟨rfl, g3⟩
            clear c2
            go_wp2_with fail
            refine (c3 _ (HS.out.grown (grownBy_trans g2 g3))).mono ?_
            rintro e w4 ⟨rfl, rfl⟩
            clear c3
            go_wp2_with fail
            refine (c4 _).mono ?_
            rintro e w5 ⟨rfl, g5⟩
            clear c4
            have gg5 := grownBy_trans (grownBy_trans g2 g3) g5
            clear g2 g3 g5
            go_wp2_with fail
            go_loopw [7] (fun i wr => FvRel 0 w1 i wr) (fun _ _ => 0)
            case atStart => exact ⟨0, by omega, rfl, gg5⟩
            case round =>
              obtain ⟨k, hk, rfl, hgr⟩ := hrel
              obtain rfl : k = 0 := by omega
              go_wp2_with fail
              refine (c5 _ _).mono ?_
              rintro e w6 ⟨rfl, g6⟩
              clear c5
              go_wp2_with fail
              refine (c6 _).mono ?_
              rintro e w7 ⟨rfl, g7⟩
              clear c6
              have gg7 := grownBy_trans hgr (grownBy_trans (grownBy_trans (World.grownBy_alloc wr (.cells #[] 9) none) g6) g7)
              go_wp2_with fail
              all_goals (go_ret; exact ⟨rfl, below_of (grownBy_trans g1 gg7)⟩)
          | cons s0 ss =>
            obtain ⟨b, off, rfl⟩ := HS.out.cons
            clear hno hi ho ht hF
            generalize lowU N t (cub N) = L at *
            generalize alwT N t = A at *
            simp only [List.length_cons] at h4 hcap c1 c2 c3
            go_wp2_with fail
            refine (c1 _ HS.out).mono ?_
            rintro e w2 ⟨rfl, g2⟩
            clear c1
            go_wp2_with fail
            refine (c2 _ (HS.out.grown g2)).mono ?_
            rintro e w3 ⟨rfl, g3⟩
            clear c2
            go_wp2_with fail
            refine (c3 _ (HS.out.grown (grownBy_trans g2 g3))).mono ?_
            rintro e w4 ⟨rfl, rfl⟩
            clear c3
            go_wp2_with fail
            refine (c4 _).mono ?_
            rintro e w5 ⟨rfl, g5⟩
            clear c4
            have gg5 := grownBy_trans (grownBy_trans g2 g3) g5
            clear g2 g3 g5
            go_wp2_with fail
            go_loopw [7] (fun i wr => FvRel (ss.length + 1) w1 i wr) (fun i _ => ss.length + 1 - (intOf i).toNat)
            case atStart => exact ⟨0, by omega, rfl, gg5⟩
            case round =>
              obtain ⟨k, hk, rfl, hgr⟩ := hrel
              by_cases hlt : k < ss.length + 1
              · have hst := HS.out.grown hgr
                have cek := ce.out k (by simpa using hlt) wr hst
                rcases hst.2 with h0 | ⟨bx, ox, hbx, _, hcx⟩
                · cases h0
                cases hbx
                have hck := hcx k (by simpa using hlt)
                simp only [List.length_cons] at cek
                clear hst hcx
                generalize (s0 :: ss).getD k nilS = q at *
                go_wp2_with fail
                refine cek.mono ?_
                rintro e w6 ⟨rfl, g6⟩
                clear cek
                go_wp2_with fail
                go_roundw
                case rel => exact ⟨k + 1, by omega, by go_num, grownBy_trans hgr g6⟩
                case measure => simp [intOf]; omega
              · obtain rfl : k = ss.length + 1 := by omega
                clear ce
                go_wp2_with fail
                refine (c5 _ _).mono ?_
                rintro e w6 ⟨rfl, g6⟩
                clear c5
                go_wp2_with fail
                refine (c6 _).mono ?_
                rintro e w7 ⟨rfl, g7⟩
                clear c6
                have gg7 := grownBy_trans hgr (grownBy_trans (grownBy_trans (World.grownBy_alloc wr (.cells #[] 9) none) g6) g7)
                go_wp2_with fail
                all_goals (go_ret; exact ⟨rfl, below_of (grownBy_trans g1 gg7)⟩)

end Go.Proofs.Ytdofeahbgodopaa

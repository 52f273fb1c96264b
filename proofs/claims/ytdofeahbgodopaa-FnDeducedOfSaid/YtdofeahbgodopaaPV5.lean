/-
  The walk of the law FnDeducedOf.
-/
import Derived.Test.YtdofeahbgodopaaPV1
import Derived.Test.YtdofeahbgodopaaAAlw
import Derived.Test.YtdofeahbgodopaaSPow
import Derived.Test.YtdofeahbgodopaaPDraw3
namespace Go.Proofs.Ytdofeahbgodopaa
open Go.RowKit

theorem ded_both {N : Nat} (hN : 1 ≤ N ∧ N ≤ 6) {ss : List ByteArray} {s t : ByteArray} {ts : List Tr} {s' t' : Tr} (ho : prOf (ss.map bl) = some ts) (h2 : ss.length ≤ 2) (es : fOf (bl s) = some s') (et : fOf (bl t) = some t') (hd : (dedN N s' t').txt.length ≤ 60) :
    folI N ((ss ++ [s]).map bl) (bl t) = folI N (ss.map bl) (bl (tb (dedN N s' t'))) := by
  have h3 : prOf ((ss ++ [s]).map bl) = some (ts ++ [s']) := by
    rw [List.map_append, prOf_s (by simp; omega)]
    exact fsOf_app es (prOf_of ho).2
  rw [folI_t h3 et (inB_nat hN), folI_t ho (show fOf (bl (tb (dedN N s' t'))) = some _ from fOf_txt hd) (inB_nat hN), ded_fol hN]
theorem one_tab : ([1, 2, 3, 4, 5, 6].all fun n : Nat => folI n [[97]] [40, 97, 42, 97, 41] && (alwB n [40, 97, 62, 40, 97, 42, 97, 41, 41] == decide (n = 1))) = true := by decide +kernel
theorem one_fol {N : Nat} (hN : 1 ≤ N ∧ N ≤ 6) : folI N [[97]] [40, 97, 42, 97, 41] = true ∧ alwB N [40, 97, 62, 40, 97, 42, 97, 41, 41] = decide (N = 1) := by
  have h := List.all_eq_true.1 one_tab N (by simp; omega)
  rw [Bool.and_eq_true] at h
  exact ⟨h.1, by simpa using h.2⟩
theorem StrsAt.news {w : World} {x : Addr} {ss : List ByteArray} (h : StrsAt w (some x) ss) : ∀ (j : Nat) (u : Value), (ss.map Value.string)[j]? = some u → w.cell? (x.add j) = some u := by
  intro j u hj
  rw [List.getElem?_map] at hj
  by_cases hl : j < ss.length
  · rcases h.2 with rfl | ⟨b, off, hx, _, hc⟩
    · simp at hl
    · cases hx
      rw [List.getElem?_eq_getElem hl] at hj
      have := hc j hl
      rw [List.getD_eq_getElem?_getD, List.getElem?_eq_getElem hl] at this
      rw [← hj, show (⟨b, off, none⟩ : Addr).add j = ⟨b, off + j, none⟩ by unfold Addr.add; split <;> simp_all]
      simpa using this
  · rw [List.getElem?_eq_none (by omega)] at hj
    cases hj
theorem own_more {wr : World} {base : Nat} {v : Value} {ss : List ByteArray} {s : ByteArray} (hm : ss.length + 1 ≤ maxLen) (h : wr.ownsRow base 9 1 v (ss.length + 1) (ss.map Value.string ++ [Value.string s])) : ∃ a cap, v = .slice a (ss.length + 1) cap ∧ StrsAt wr a (ss ++ [s]) := by
  have e : ss.map Value.string ++ [Value.string s] = (ss ++ [s]).map Value.string := by simp
  rw [e, show ss.length + 1 = (ss ++ [s]).length by simp] at h
  obtain ⟨a, cap, h1, _, h2, _⟩ := own_texts (by simp; exact hm) h
  exact ⟨a, cap, by rw [h1]; simp, h2⟩
theorem always_u (n : Int) (s : ByteArray) {v : Bool} (h : alwB n (bl s) = v) (w : World) :
    Calls Try.prog 21 #[.int .i64 n, .string s] w fun e w' => e = .returned (.bool v) ∧ w.grownBy w' none := by rw [← h]; exact always_any n s w

set_option maxRecDepth 100000 in
set_option maxHeartbeats 4000000 in
theorem FnDeducedOf_walk (a0 : Option Addr) (len0 cap0 : Nat) (z0 : List Int) (a1 : Option Addr) (len1 cap1 : Nat) (z1 : List Int) (w : World) (w0 : IsRow .u8 w a0 len0 cap0 z0) (w1 : IsRow .u8 w a1 len1 cap1 z1) :
    Calls Try.prog 7 #[.slice a0 len0 cap0, .slice a1 len1 cap1] w fun e w' => e = .returned (.bool true) ∧ Below w.heap.size w w' := by
  obtain ⟨i0, hi, hz0, hz1, hz2⟩ := info_parts infoStr
  by_cases hl : (1048576 : Int) < (len0 : Int)
  · clear w0 w1
    go_enter Try.func7, Try.ntmps7
    go_wp2_with fail
    go_ret
    exact ⟨rfl, Below.refl _ _⟩
  · by_cases hl1 : (1048576 : Int) < (len1 : Int)
    · clear w0 w1
      go_enter Try.func7, Try.ntmps7
      go_wp2_with fail
      go_ret
      exact ⟨rfl, Below.refl _ _⟩
    · go_enter Try.func7, Try.ntmps7
      go_wp2_with fail
      refine (DrawDeducedOf_any _ _ _ _ _ w0).mono ?_
      rintro e wa ⟨n, s, t, rfl, n1, n2, hs, ht, ga⟩
      have r1 := row_grown w1 ga
      clear w0 w1
      cases hd : dedI n (bl s) (bl t) with
      | none =>
        have c1 : ∀ w, Calls Try.prog 32 #[.int .i64 n, .string s, .string t] w fun e w' => e = .returned (.tuple #[.string ⟨#[]⟩, .bool false]) ∧ w.grownBy w' none := fun w => by
          have := ded_any n s t w
          rw [hd] at this
          exact this
        have c2 : ∀ w, Calls Try.prog 33 #[.int .i64 n, .string s, .string t] w fun e w' => e = .returned (.tuple #[.string ⟨#[]⟩, .bool false]) ∧ w = w' := fun w => by
          have := sded_any n s t (by omega) w
          rw [hd] at this
          exact this
        clear hd r1
        go_wp2_with fail
        refine (c1 _).mono ?_
        rintro e w2 ⟨rfl, g2⟩
        clear c1
        go_wp2_with fail
        refine (c2 _).mono ?_
        rintro e w3 ⟨rfl, rfl⟩
        clear c2
        go_wp2_with (go_at_call 16; refine (alive_any _).mono ?_; rintro e w' ⟨rfl, rfl⟩)
        go_ret
        exact ⟨rfl, below_of (grownBy_trans ga g2)⟩
      | some d =>
        have c1 : ∀ w, Calls Try.prog 32 #[.int .i64 n, .string s, .string t] w fun e w' => e = .returned (.tuple #[.string (tb d), .bool true]) ∧ w.grownBy w' none := fun w => by
          have := ded_any n s t w
          rw [hd] at this
          exact this
        have c2 : ∀ w, Calls Try.prog 33 #[.int .i64 n, .string s, .string t] w fun e w' => e = .returned (.tuple #[.string (tb d), .bool true]) ∧ w = w' := fun w => by
          have := sded_any n s t (by omega) w
          rw [hd] at this
          exact this
        obtain ⟨N, s', t', rfl, hN, es, et, rfl, hdl⟩ := dedI_of hd
        have cf := frm_yes (tb (dedN N s' t')) (show fOf (bl (tb (dedN N s' t'))) = some _ from fOf_txt hdl)
        have HB : Hid (∀ (ss : List ByteArray) (ts : List Tr), prOf (ss.map bl) = some ts → ss.length ≤ 2 → folI N ((ss ++ [s]).map bl) (bl t) = folI N (ss.map bl) (bl (tb (dedN N s' t')))) := fun ss ts ho h2 => ded_both hN ho h2 es et hdl
        have ca : ∀ (w : World) (b : Nat), StrsAt w (some ⟨b, 0, none⟩) [⟨#[97]⟩] → Calls Try.prog 18 #[.int .i64 N, .slice (some ⟨b, 0, none⟩) 1 1, .string ⟨#[40, 97, 42, 97, 41]⟩] w fun e w' => e = .returned (.bool true) ∧ w.grownBy w' none := fun w b h => ff_is N (some ⟨b, 0, none⟩) 1 [⟨#[97]⟩] ⟨#[40, 97, 42, 97, 41]⟩ (one_fol hN).1 w h
        have cw := always_u N ⟨#[40, 97, 62, 40, 97, 42, 97, 41, 41]⟩ (one_fol hN).2
        have hN1 : ((N : Int) == 1) = decide (N = 1) := by
          by_cases h : N = 1
          · subst h; rfl
          · rw [decide_eq_false h]; simp; omega
        obtain ⟨D, hD⟩ : ∃ D : Bool, D = decide (N = 1) := ⟨_, rfl⟩
        rw [← hD] at hN1 cw
        have hDD : (D == D) = true := by simp
        clear hd es et hdl hD
        generalize tb (dedN N s' t') = X at *
        have hXX : (X.toList != X.toList) = false := by simp
        go_wp2_with fail
        refine (c1 _).mono ?_
        rintro e w2 ⟨rfl, g2⟩
        clear c1
        go_wp2_with fail
        refine (c2 _).mono ?_
        rintro e w3 ⟨rfl, rfl⟩
        clear c2
        go_wp2_with fail
        refine (DrawCountTrue_some _ _ _ _ _ (row_grown r1 g2)).mono ?_
        rintro e w4 ⟨m, ss, x, cap, rfl, m1, m2, h4, hcap, hsz, hS, g4⟩
        clear r1 hsz
        have gA := grownBy_trans ga (grownBy_trans g2 g4)
        clear ga g2 g4
        have HS := Lib.hid hS
        clear hS
        cases hv : premB (ss.map bl)
        · have c3 := sprem_is (some x) cap ss hv
          clear hv
          go_wp2_with fail
          refine (c3 _ HS.out).mono ?_
          rintro e w5 ⟨rfl, rfl⟩
          clear c3
          go_wp2_with fail
          refine (cf _).mono ?_
          rintro e wf ⟨rfl, gf⟩
          clear cf
          go_wp2_with fail
          refine (ca _ _ (StrsAt.lit1 _ _)).mono ?_
          rintro e wg ⟨rfl, gg⟩
          clear ca
          go_wp2_with fail
          refine (cw _).mono ?_
          rintro e wh ⟨rfl, gh⟩
          clear cw
          go_wp2_with fail
          go_ret
          exact ⟨rfl, below_of (grownBy_trans gA (grownBy_trans gf (grownBy_trans (grownBy_trans (World.grownBy_alloc _ _ none) gg) gh)))⟩
        · by_cases h2 : ss.length ≤ 2
          · obtain ⟨ts, ho⟩ := premB_of hv
            have hb := HB.out ss ts ho h2
            have c3 := sprem_is (some x) cap ss hv
            obtain ⟨B, hB⟩ : ∃ B, folI N (ss.map bl) (bl X) = B := ⟨_, rfl⟩
            have c4 := ff_is N (some x) cap ss X hB
            have c5 : ∀ (w : World) (a : Option Addr) (cp : Nat), StrsAt w a (ss ++ [s]) → Calls Try.prog 18 #[.int .i64 N, .slice a (ss.length + 1) cp, .string t] w fun e w' => e = .returned (.bool B) ∧ w.grownBy w' none := fun w a cp h => by
              have := ff_is N a cp (ss ++ [s]) t (hb.trans hB) w h
              rw [show (ss ++ [s]).length = ss.length + 1 by simp] at this
              exact this
            have hBB : (B != B) = false := by simp
            clear hv ho hb hB HB
            go_wp2_with fail
            refine (c3 _ HS.out).mono ?_
            rintro e w5 ⟨rfl, rfl⟩
            clear c3
            go_wp2_with (at_builtin; refine wpList_append_own _ rfl _ _ 23 rfl w4.heap.size 9 i0 (.string nilS) 1 16 Try.underlying23 hi hz0 hz1 hz2 rfl (by decide) _ _ _ rfl (World.ownsRow_lit (e := 9) (size := 1) w4 #[] 0 (Nat.le_refl _) (by unfold maxLen; omega) rfl) x ss.length cap (ss.map Value.string) rfl (by simp) ?c1 ?c2 ?c3 ?c4 ?c5 ?_)
            case c1 => exact (HS.out.grown (World.grownBy_alloc _ _ none)).news
            case c2 => intro u hu; obtain ⟨q, _, rfl⟩ := List.mem_map.1 hu; rfl
            case c3 => unfold maxLen; omega
            case c4 => omega
            case c5 => simp
            intro v5 w5 hown5 hgrow5 _
            have g5 := grownBy_row (World.grownBy_alloc w4 (.cells #[] 9) none) (World.ownsRow_lit (e := 9) (size := 1) w4 #[] 0 (Nat.le_refl _) (by unfold maxLen; omega) rfl) (Nat.le_refl _) hgrow5
            have Ho5 : w5.ownsRow w4.heap.size 9 1 v5 ss.length (ss.map Value.string) := by simpa using hown5
            clear hown5 hgrow5
            go_wp2_with (at_builtin; refine wpList_append_own _ rfl _ _ 23 rfl w4.heap.size 9 i0 (.string nilS) 1 16 Try.underlying23 hi hz0 hz1 hz2 rfl (by decide) _ _ _ rfl (World.ownsRow.alloc Ho5 _) ⟨w5.heap.size, 0, none⟩ 1 1 [.string s] rfl rfl ?c1 ?c2 ?c3 ?c4 ?c5 ?_)
            case c1 =>
              intro j u hj
              match j, hj with
              | 0, hj => simp at hj; subst hj; simp [Addr.add]
            case c2 => intro u hu; simp at hu; subst hu; rfl
            case c3 => unfold maxLen; omega
            case c4 => omega
            case c5 => have := g5.size; simp; omega
            intro v6 w6 hown6 hgrow6 _
            have hA := World.ownsRow.alloc Ho5 (.cells #[.string s] 9)
            have g6 := grownBy_row (grownBy_trans g5 (World.grownBy_alloc w5 (.cells #[.string s] 9) none)) hA (Nat.le_refl _) hgrow6
            obtain ⟨a6, cap6, rfl, hS6⟩ := own_more (by unfold maxLen; omega) hown6
            have HS6 := Lib.hid hS6
            clear hown6 hgrow6 hA Ho5 g5 hS6
            go_wp2_with fail
            refine (c4 _ (HS.out.grown g6)).mono ?_
            rintro e w7 ⟨rfl, g7⟩
            clear c4
            go_wp2_with fail
            refine (c5 _ _ _ (HS6.out.grown g7)).mono ?_
            rintro e w8 ⟨rfl, g8⟩
            clear c5
            have gB := grownBy_trans gA (grownBy_trans g6 (grownBy_trans g7 g8))
            clear gA g6 g7 g8
            go_wp2_with fail
            refine (cf _).mono ?_
            rintro e wf ⟨rfl, gf⟩
            clear cf
            go_wp2_with fail
            refine (ca _ _ (StrsAt.lit1 _ _)).mono ?_
            rintro e wg ⟨rfl, gg⟩
            clear ca
            go_wp2_with fail
            refine (cw _).mono ?_
            rintro e wh ⟨rfl, gh⟩
            clear cw
            go_wp2_with fail
            go_ret
            exact ⟨rfl, below_of (grownBy_trans gB (grownBy_trans gf (grownBy_trans (grownBy_trans (World.grownBy_alloc _ _ none) gg) gh)))⟩
          · have c3 := sprem_is (some x) cap ss hv
            clear hv
            go_wp2_with fail
            refine (c3 _ HS.out).mono ?_
            rintro e w5 ⟨rfl, rfl⟩
            clear c3
            go_wp2_with fail
            refine (cf _).mono ?_
            rintro e wf ⟨rfl, gf⟩
            clear cf
            go_wp2_with fail
            refine (ca _ _ (StrsAt.lit1 _ _)).mono ?_
            rintro e wg ⟨rfl, gg⟩
            clear ca
            go_wp2_with fail
            refine (cw _).mono ?_
            rintro e wh ⟨rfl, gh⟩
            clear cw
            go_wp2_with fail
            go_ret
            exact ⟨rfl, below_of (grownBy_trans gA (grownBy_trans gf (grownBy_trans (grownBy_trans (World.grownBy_alloc _ _ none) gg) gh)))⟩

end Go.Proofs.Ytdofeahbgodopaa

/-
  Numbers with commas between them: both.
-/
import Derived.Test.YtlnffpofbfigaaaGreatDoorM8bfeaf45
import Derived.Test.YtlnffpofbfigaaaGreatDoorNcdb9cdd1
import Derived.Test.YtlnffpofbfigaaaGreatDoorN891658c6
import Derived.Test.YtlnffpofbfigaaaGreatDoorMdba168c0
import Derived.Test.YtlnffpofbfigaaaGreatDoorSfd
namespace Go.Proofs.YtlnffpofbfigaaaGreatDoor
open Go.RowKit

def Num99 (xs : List Int) : Prop := ∀ x ∈ xs, 0 ≤ x ∧ x < 100
theorem take_int {xs : List Int} {k : Nat} (hk : k < xs.length) : xs.take (k + 1) = xs.take k ++ [xs.getD k 0] := by
  rw [List.take_add_one, List.getD_eq_getElem?_getD]
  simp [hk]
theorem get_int {xs : List Int} {k : Nat} (hk : k < xs.length) : xs.getD k 0 ∈ xs := by
  rw [List.getD_eq_getElem?_getD, List.getElem?_eq_getElem hk]
  exact List.getElem_mem hk
theorem comL_len : ∀ (l : List Nat), (∀ x ∈ l, x < 100) → (comL l).length ≤ 3 * l.length
  | [], _ => by simp [comL]
  | [x], h => by
    have := decL_len (m := 2) (h x (by simp)) (by omega)
    show (decL x).length ≤ _
    simp; omega
  | x :: y :: l, h => by
    have h1 := decL_len (m := 2) (h x (by simp)) (by omega)
    have h2 := comL_len (y :: l) fun z hz => h z (by simp at hz ⊢; exact .inr hz)
    rw [comL_cons]
    simp only [List.length_append, List.length_cons] at h2 ⊢
    omega
theorem nums_take {xs : List Int} (h : Num99 xs) (k : Nat) : ∀ x ∈ (xs.take k).map Int.toNat, x < 100 := fun x hx => by
  obtain ⟨y, hy, rfl⟩ := List.mem_map.1 hx
  have := h y (List.mem_of_mem_take hy)
  omega
theorem rowA_nil : rowA [] = noneA := rfl
theorem rowA_pos {xs : List Int} (h : xs ≠ []) : rowA xs = bs (comL (xs.map Int.toNat)) := by
  cases xs with
  | nil => exact absurd rfl h
  | cons x l => rfl

def RwRel (xs : List Int) (w : World) (kv ov : Value) (wr : World) : Prop := ∃ k : Nat, k ≤ xs.length ∧ kv = .int .i64 k ∧ ov = .string (bs (comL ((xs.take k).map Int.toNat))) ∧ w.grownBy wr none

set_option maxRecDepth 8000 in
set_option maxHeartbeats 4000000 in
theorem srowt_any (xs : List Int) (hx : Num99 xs) (hn : xs.length ≤ 1000) (a : Option Addr) (cap : Nat) (w : World) (h : IntsAt w a xs) :
    Calls Tryz.prog 68 #[.slice a xs.length cap] w fun e w' => e = .returned (.string (rowA xs)) ∧ w.grownBy w' none := by
  have H := Lib.hid h
  have HX := Lib.hid hx
  clear h hx
  go_enter Tryz.func68, Tryz.ntmps68
  go_wp2_with fail
  go_loopw [4, 3] (fun kv ov wr => RwRel xs w kv ov wr) (fun kv _ _ => xs.length - (intOf kv).toNat)
  case atStart => exact ⟨0, by omega, rfl, rfl, grownBy_refl _ _⟩
  case round =>
    obtain ⟨k, hk, rfl, rfl, hgr⟩ := hrel
    have Hgr := Lib.hid hgr
    clear hgr
    by_cases hlt : k < xs.length
    · rcases (H.out.grown Hgr.out).2 with h0 | ⟨bx, ox, rfl, _, hcx⟩
      · rw [h0] at hlt; simp at hlt
      have hc : ∀ w2, wr.grownBy w2 none → w2.cell? ⟨bx, ox + k, none⟩ = some (.int .i64 (xs.getD k 0)) := fun w2 g => by
        rcases (H.out.grown (grownBy_trans Hgr.out g)).2 with h0 | ⟨b', o', e, _, hc'⟩
        · rw [h0] at hlt; simp at hlt
        · cases e; exact hc' k hlt
      have HC := Lib.hid hc
      have c0 := hc wr (grownBy_refl _ _)
      have hq := HX.out _ (get_int hlt)
      have HN := Lib.hid (take_int hlt)
      have hL := comL_len _ (nums_take HX.out k)
      rw [List.length_map, List.length_take, Nat.min_eq_left hk] at hL
      clear hc hcx
      generalize xs.getD k 0 = q at *
      obtain ⟨Q, rfl⟩ := Int.eq_ofNat_of_zero_le hq.1
      have cn := num99_any Q (by omega)
      have hdl := decL_len (m := 2) (k := Q) (by omega) (by omega)
      obtain ⟨O, hO⟩ : ∃ O, O = bs (comL ((xs.take k).map Int.toNat)) := ⟨_, rfl⟩
      obtain ⟨D, hD⟩ : ∃ D, D = bs (decL Q) := ⟨_, rfl⟩
      have zO : Hid (O.size ≤ 3 * k) := Lib.hid (by rw [hO, bs_size]; exact hL)
      have zD : Hid (D.size ≤ 2) := Lib.hid (by rw [hD, bs_size]; exact hdl)
      rw [← hO]
      rw [← hD] at cn
      have n1 : ¬ (9223372036854775807 < O.size + 1) := by have := zO.out; omega
      have n2 : ¬ (9223372036854775807 < O.size + 1 + D.size) := by have := zO.out; have := zD.out; omega
      have n3 : ¬ (9223372036854775807 < O.size + D.size) := by have := zO.out; have := zD.out; omega
      have HO := Lib.hid hO
      have HD := Lib.hid hD
      have hcm : (xs.take (k + 1)).map Int.toNat = (xs.take k).map Int.toNat ++ [Q] := by rw [HN.out]; simp
      have HCM := Lib.hid hcm
      clear hO hD hL hdl hq hcm
      by_cases hk0 : k = 0
      · have hnp : ¬ ((0 : Int) < (k : Int)) := by omega
        have hfin : Hid (O ++ D = bs (comL ((xs.take (k + 1)).map Int.toNat))) := Lib.hid (by
          rw [HCM.out, HO.out, HD.out, bs_app, hk0]
          rfl)
        have HK0 := Lib.hid hk0
        clear hk0
        go_wp2_with (first | (go_at_call 62; (with_reducible refine (cn _).mono ?_); rintro e w2 ⟨rfl, g2⟩))
        go_roundw
        case rel => exact ⟨k + 1, by omega, by go_num, by rw [hfin.out], grownBy_trans Hgr.out g2⟩
        case measure => simp [intOf]; omega
      · have hpos : (0 : Int) < (k : Int) := by omega
        have hfin : Hid (O ++ ⟨#[44]⟩ ++ D = bs (comL ((xs.take (k + 1)).map Int.toNat))) := Lib.hid (by
          rw [HCM.out, HO.out, HD.out, comL_snoc _ _ (by
            intro e
            have := congrArg List.length e
            rw [List.length_map, List.length_take, List.length_nil] at this
            omega)]
          rw [show (⟨#[44]⟩ : ByteArray) = bs [44] from rfl, bs_app, bs_app]
          simp)
        go_wp2_with (first | (go_at_call 62; (with_reducible refine (cn _).mono ?_); rintro e w2 ⟨rfl, g2⟩))
        go_roundw
        case rel => exact ⟨k + 1, by omega, by go_num, by rw [hfin.out], grownBy_trans Hgr.out g2⟩
        case measure => simp [intOf]; omega
    · obtain rfl : k = xs.length := by omega
      rw [List.take_length]
      by_cases h0 : xs = []
      · subst h0
        go_wp2_with fail
        go_ret
        exact ⟨rfl, Hgr.out⟩
      · have hne : ((xs.length : Int) == 0) = false := beq_false_of_ne fun e => h0 (List.length_eq_zero_iff.1 (by omega))
        rw [← rowA_pos h0]
        obtain ⟨R, hR⟩ : ∃ R, R = rowA xs := ⟨_, rfl⟩
        have HR := Lib.hid hR
        rw [← hR]
        clear hR
        go_wp2_with fail
        go_ret
        exact ⟨by rw [← HR.out]; rfl, Hgr.out⟩

theorem syes_any (b : Bool) (w : World) : Calls Tryz.prog 63 #[.bool b] w fun e w' => e = .returned (.string (yesA b)) ∧ w = w' := by
  cases b
  all_goals
    go_enter Tryz.func63, Tryz.ntmps63
    go_wp2_with fail
    go_ret
    exact ⟨rfl, rfl⟩
theorem iyes_any (b : Bool) (w : World) : Calls Tryz.prog 134 #[.bool b] w fun e w' => e = .returned (.string (yesA b)) ∧ w = w' := by
  cases b
  all_goals
    go_enter Tryz.func134, Tryz.ntmps134
    go_wp2_with fail
    go_ret
    exact ⟨rfl, rfl⟩

theorem join_com : ∀ (l : List Nat), Lib.join (l.map decL) [44] = comL l
  | [] => rfl
  | [x] => by rw [List.map_singleton, Lib.join_one]; rfl
  | x :: y :: l => by
    have ih := join_com (y :: l)
    rw [List.map_cons, Lib.join_cons] at ih ⊢
    rw [comL_cons, ← ih, List.map_cons]
    simp [Lib.joinTail]
def NtRel (g : Nat) (xs : List Int) (w : World) (i : Value) (wr : World) : Prop :=
  ∃ (k : Nat) (vs : List Value), k ≤ xs.length ∧ i = .int .i64 k ∧ wr.ownsRow w.heap.size 9 1 (.slice (some ⟨g, 0, none⟩) xs.length xs.length) xs.length vs ∧ (∀ j, j < k → vs[j]? = some (.string (bs (decL (xs.getD j 0).toNat)))) ∧ w.grownBy wr none

set_option maxRecDepth 8000 in
set_option maxHeartbeats 4000000 in
theorem nums_any (xs : List Int) (hx : Num99 xs) (hn : xs.length ≤ 1000) (a : Option Addr) (cap : Nat) (w : World) (h : IntsAt w a xs) :
    Calls Tryz.prog 153 #[.slice a xs.length cap] w fun e w' => e = .returned (.string (rowA xs)) ∧ w.grownBy w' none := by
  obtain ⟨i0, hi, hz0, hz1, hz2⟩ := info_parts infoStr
  have H := Lib.hid h
  have HX := Lib.hid hx
  clear h hx
  by_cases h0 : xs = []
  · subst h0
    go_enter Tryz.func153, Tryz.ntmps153
    go_wp2_with fail
    go_ret
    exact ⟨rfl, grownBy_refl _ _⟩
  · have hne : ((xs.length : Int) == 0) = false := beq_false_of_ne fun e => h0 (List.length_eq_zero_iff.1 (by omega))
    rw [rowA_pos h0]
    have H0 := Lib.hid h0
    clear h0
    go_enter Tryz.func153, Tryz.ntmps153
    go_wp2_with (at_make; refine wpList_make_full _ rfl _ _ 49 rfl w.heap.size 9 i0 (.string nilS) 1 Tryz.underlying49 hi hz0 hz1 .i64 .i64 _ _ xs.length rfl rfl rfl rfl ?b2 ?b3 (Nat.le_refl _) ?_)
    case b2 => rw [hz2]; omega
    case b3 => unfold maxLen; omega
    intro w0 hown0 hgrow0
    go_wp2
    go_loopw [14] (fun i wr => NtRel w.heap.size xs w i wr) (fun i _ => xs.length - (intOf i).toNat)
    case atStart => exact ⟨0, _, by omega, rfl, hown0, fun j hj => absurd hj (by omega), hgrow0⟩
    case round =>
      obtain ⟨k, vs, hk, rfl, hown, hxs, hgr⟩ := hrel
      by_cases hlt : k < xs.length
      · rcases (H.out.grown hgr).2 with h0 | ⟨bx, ox, rfl, hbx, hcx⟩
        · rw [h0] at hlt; simp at hlt
        have hc1 := hcx k hlt
        have hq := HX.out _ (get_int hlt)
        have hfr := World.ownsRow.frozenAt hown k
        have hce := World.ownsRow.cellAt hown k (by omega)
        have hxl := hown.1
        rw [List.getElem?_eq_getElem (by omega)] at hce
        obtain ⟨u, hce⟩ : ∃ u, wr.cell? ⟨w.heap.size, k, none⟩ = some u := ⟨_, hce⟩
        have hst := Lib.hid (World.ownsRow.stored hown k (.string (bs (decL (xs.getD k 0).toNat))))
        have hg2 := Lib.hid (grownBy_row hgr hown (Nat.le_refl _) hst.out.2)
        have hxs2 : Hid (∀ j, j < k + 1 → (vs.set k (.string (bs (decL (xs.getD k 0).toNat))))[j]? = some (.string (bs (decL (xs.getD j 0).toNat)))) := Lib.hid fun j hj => by
          by_cases e : j = k
          · subst e; rw [List.getElem?_set_self (by omega)]
          · rw [List.getElem?_set_ne (by omega)]; exact hxs j (by omega)
        clear hown hgr hcx hbx hxs
        have HXL := Lib.hid hxl
        generalize xs.getD k 0 = q at *
        obtain ⟨Q, rfl⟩ := Int.eq_ofNat_of_zero_le hq.1
        have cn := itoa2_any Q (by omega)
        rw [Int.toNat_natCast] at hst hg2 hxs2
        generalize bs (decL Q) = D at *
        clear hq
        go_wp2_with (first | (go_at_call 54; (with_reducible refine (cn _).mono ?_); rintro e w2 ⟨rfl, rfl⟩))
        go_roundw
        case rel => exact ⟨k + 1, _, by omega, by go_num, hst.out.1, hxs2.out, hg2.out⟩
        case measure => simp [intOf]; omega
      · obtain rfl : k = xs.length := by omega
        have hjl := comL_len _ (nums_take HX.out xs.length)
        rw [List.length_map, List.take_length] at hjl
        have hss : (xs.map fun x => bs (decL x.toNat)).map (·.data.toList) = (xs.map Int.toNat).map decL := by
          rw [List.map_map, List.map_map]; rfl
        have cj := Any.strings_Join Tryz.lays156 Tryz.Builder_Extra_156 w.heap.size 0 xs.length (xs.map fun x => bs (decL x.toNat)) ⟨#[44]⟩ wr (fun j x hj => by
          have hjl : j < xs.length := by have := (List.getElem?_eq_some_iff.1 hj).1; simpa using this
          have hc := World.ownsRow.cellAt hown j (by omega)
          rw [Nat.zero_add, hc, hxs j hjl]
          rw [List.getElem?_map, List.getElem?_eq_getElem hjl] at hj
          cases hj
          rw [List.getD_eq_getElem?_getD, List.getElem?_eq_getElem hjl]; rfl) (by
          have hp : 0 < xs.length := List.length_pos_iff.2 H0.out
          have c0 := World.ownsRow.cellAt hown 0 (by omega)
          rw [hxs 0 hp] at c0
          exact World.block_lt_of_cell? wr _ c0) (by simp; omega) (by simp) (by
          rw [hss]
          show (Lib.join _ [44]).length ≤ _
          rw [join_com]; omega)
        rw [hss] at cj
        change Calls Tryz.prog _ _ _ (fun e w' => e = .returned (.string ⟨(Lib.join _ [44]).toArray⟩) ∧ _) at cj
        rw [join_com, List.length_map] at cj
        have hg := Lib.hid hgr
        clear hown hxs hgr hss hjl
        go_wp2_with fail
        refine cj.mono ?_
        rintro e w2 ⟨rfl, hb2⟩
        go_wp2_with fail
        go_ret
        exact ⟨rfl, grownBy_trans hg.out (gr_below hb2)⟩

end Go.Proofs.YtlnffpofbfigaaaGreatDoor

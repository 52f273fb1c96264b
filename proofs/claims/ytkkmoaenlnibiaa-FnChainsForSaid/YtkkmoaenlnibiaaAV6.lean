/-
  The walk of the law FnChainsFor.
-/
import Derived.Test.YtkkmoaenlnibiaaAIs
namespace Go.Proofs.Ytkkmoaenlnibiaa
open Go.RowKit

def hasTo (x : List Int) (n : Int) (k : Nat) : Prop := ∀ j, j < k → x.getD j 0 ≠ n
theorem hasTo_mem {x : List Int} {n : Int} (h : hasTo x n x.length) : x.contains n = false := by
  rw [List.contains_eq_mem, decide_eq_false_iff_not]
  intro hm
  obtain ⟨i, hi, he⟩ := List.mem_iff_getElem.1 hm
  refine h i hi ?_
  rw [List.getD_eq_getElem?_getD, List.getElem?_eq_getElem hi]
  exact he
theorem has_hit {x : List Int} {n : Int} {k : Nat} (hk : k < x.length) (e : x.getD k 0 = n) : x.contains n = true := by
  rw [List.contains_eq_mem, decide_eq_true_eq, ← e, List.getD_eq_getElem?_getD, List.getElem?_eq_getElem hk]
  exact List.getElem_mem hk

set_option maxHeartbeats 1000000 in
theorem hasInt_any (a : Option Addr) (ca : Nat) (x : List Int) (n : Int) (w : World) (hx : IntsAt w a x) :
    Calls Try.prog 39 #[.slice a x.length ca, .int .i64 n] w fun e w' => e = .returned (.bool (x.contains n)) ∧ w.grownBy w' none := by
  have hm := hx.1
  unfold maxLen at hm
  have Hx := Lib.hid hx
  clear hx
  go_enter Try.func39, Try.ntmps39
  go_wp2
  go_loopw [5] (fun i wr => ∃ k : Nat, k ≤ x.length ∧ i = .int .i64 k ∧ hasTo x n k ∧ w.grownBy wr none) (fun i _ => x.length - (intOf i).toNat)
  case atStart => exact ⟨0, by omega, rfl, fun j hj => absurd hj (by omega), grownBy_refl _ _⟩
  case round =>
    obtain ⟨k, hk, rfl, hup, hgr⟩ := hrel
    have Hup := Lib.hid hup
    have Hgr := Lib.hid hgr
    clear hup hgr
    by_cases hlt : k < x.length
    · have hx2 := Hx.out.grown Hgr.out
      rcases hx2.2 with h0 | ⟨bx, ox, rfl, hbx, hcx⟩
      · rw [h0] at hlt; simp at hlt
      have hc1 := hcx k hlt
      clear hx2 hcx hbx
      by_cases he : x.getD k 0 = n
      · have hz := Lib.hid (has_hit hlt he)
        have g1 : (x.getD k 0 == n) = true := by simpa using he
        generalize x.getD k 0 = p at *
        clear he
        go_wp2
        go_ret
        exact ⟨by rw [hz.out]; rfl, Hgr.out⟩
      · have hn : Hid (hasTo x n (k + 1)) := fun j hj => by
          by_cases h : j < k
          · exact Hup.out j h
          · have : j = k := by omega
            rw [this]; exact he
        have g1 : (x.getD k 0 == n) = false := by simpa using he
        generalize x.getD k 0 = p at *
        clear he
        go_wp2
        go_roundw
        case rel => exact ⟨k + 1, by omega, by go_num, hn.out, Hgr.out⟩
        case measure => simp [intOf]; omega
    · obtain rfl : k = x.length := by omega
      have hz := Lib.hid (hasTo_mem Hup.out)
      go_wp2
      go_ret
      exact ⟨by rw [hz.out]; rfl, Hgr.out⟩

theorem one_cell (w : World) (x : Int) (t : TypeId) : IntsAt (w.alloc (.cells #[.int .i64 x] t)) (some ⟨w.heap.size, 0, none⟩) [x] := by
  refine ⟨by simp [maxLen], .inr ⟨w.heap.size, 0, rfl, by simp, fun i hi => ?_⟩⟩
  match i, hi with
  | 0, _ => exact (BlkAt.new w #[.int .i64 x] t).cell (i := 0) rfl
theorem two_cells5 (w : World) (x y : Int) (t : TypeId) : IntsAt (w.alloc (.cells #[.int .i64 x, .int .i64 y] t)) (some ⟨w.heap.size, 0, none⟩) [x, y] := by
  refine ⟨by simp [maxLen], .inr ⟨w.heap.size, 0, rfl, by simp, fun i hi => ?_⟩⟩
  match i, hi with
  | 0, _ => exact (BlkAt.new w #[.int .i64 x, .int .i64 y] t).cell (i := 0) rfl
  | 1, _ => exact (BlkAt.new w #[.int .i64 x, .int .i64 y] t).cell (i := 1) rfl
theorem ascTo_pw {x : List Int} (h : x.Pairwise (· < ·)) : ascTo x x.length := fun j hj => by
  rw [List.pairwise_iff_getElem] at h
  have h1 : j < x.length := by omega
  have := h j (j + 1) h1 hj (by omega)
  rw [List.getD_eq_getElem?_getD, List.getElem?_eq_getElem h1, List.getD_eq_getElem?_getD, List.getElem?_eq_getElem hj]
  exact this
theorem chains_lit {l : List UInt8} {zs : List Int} (h : chI l = zs) (s : ByteArray) (e : bl s = l) (w : World) :
    Calls Try.prog 35 #[.string s] w (IntsPost zs w) := by
  have := chains_any s w
  rw [e, h] at this
  exact this

set_option maxRecDepth 100000 in
set_option maxHeartbeats 2000000 in
theorem FnChainsFor_walk (a0 : Option Addr) (len0 cap0 : Nat) (z0 : List Int) (w : World) (w0 : IsRow .u8 w a0 len0 cap0 z0) :
    Calls Try.prog 8 #[.slice a0 len0 cap0] w fun e w' => e = .returned (.bool true) ∧ Below w.heap.size w w' := by
  by_cases hl : (1048576 : Int) < (len0 : Int)
  · clear w0
    go_enter Try.func8, Try.ntmps8
    go_wp2_with fail
    go_ret
    exact ⟨rfl, Below.refl _ _⟩
  · go_enter Try.func8, Try.ntmps8
    go_wp2_with fail
    refine (DrawChainsFor_any _ _ _ _ _ w0).mono ?_
    rintro e w1 ⟨s, rfl, hs, g1⟩
    clear w0
    have hlen := chTo_len (bl s) 6
    rw [chTo_6] at hlen
    have hcg := chains_any s
    have hcs := schains_any s
    have hss := sameL_self (chI (bl s))
    have has : ascL (chI (bl s)) = true := ascL_all (ascTo_pw (chI_asc (bl s)))
    have hel : ∀ k, k < (chI (bl s)).length → (1 ≤ (chI (bl s)).getD k 0 ∧ (chI (bl s)).getD k 0 ≤ 6) ∧ ∀ d : Nat, 1 ≤ d → (chI (bl s)).getD k 0 % (d : Int) = 0 → (chI (bl s)).contains (d : Int) = true := fun k hk => by
      have hm : (chI (bl s)).getD k 0 ∈ chI (bl s) := by
        rw [List.getD_eq_getElem?_getD, List.getElem?_eq_getElem hk]
        exact List.getElem_mem hk
      refine ⟨(chI_mem.1 hm).1, fun d hd hmod => ?_⟩
      rw [List.contains_eq_mem, decide_eq_true_eq]
      exact chI_div hm hd hmod
    have k1 := chains_lit third_ch ⟨#[40, 97, 124, 33, 97, 41]⟩ rfl
    have k2 := chains_lit twice_ch ⟨#[40, 97, 62, 40, 97, 42, 97, 41, 41]⟩ rfl
    have k3 := chains_lit thrice_ch ⟨#[40, 40, 97, 42, 97, 41, 62, 40, 40, 97, 42, 97, 41, 42, 97, 41, 41]⟩ rfl
    generalize chI (bl s) = zs at *
    have hlen2 : zs.length ≤ maxLen := by unfold maxLen; omega
    have Hlen2 := Lib.hid hlen2
    have Hcg := Lib.hid hcg
    have Hcs := Lib.hid hcs
    have Hel := Lib.hid hel
    have Has := Lib.hid has
    have K1 := Lib.hid k1
    have K2 := Lib.hid k2
    have K3 := Lib.hid k3
    clear hlen2 hcg hcs hel has k1 k2 k3
    go_wp2_with fail
    refine (Hcg.out _).mono ?_
    rintro e w2 ⟨a, ca, rfl, ho2, hg2⟩
    have H2 := Lib.hid ho2
    clear ho2
    go_wp2_with fail
    refine (Hcs.out _).mono ?_
    rintro e w3 ⟨b, cb, rfl, ho3, hg3⟩
    have H3 := Lib.hid ho3
    have H2' := Lib.hid (H2.out.kept hg3)
    clear ho3
    go_wp2_with fail
    refine (sameInts_any _ _ _ _ zs zs _ (H2'.out.at Hlen2.out) (H3.out.at Hlen2.out)).mono ?_
    rintro e w4 ⟨rfl, hg4⟩
    have hA := grownBy_trans (grownBy_trans (grownBy_trans g1 hg2) hg3) hg4
    have H4 := Lib.hid ((H2'.out.kept hg4).at Hlen2.out)
    clear g1 hg2 hg3 hg4 Hcg Hcs
    go_wp2_with fail
    go_loopw [5] (fun i wr => ∃ k : Nat, k ≤ zs.length ∧ i = .int .i64 k ∧ w.grownBy wr none ∧ w4.grownBy wr none) (fun i _ => zs.length - (intOf i).toNat)
    case atStart => exact ⟨0, by omega, rfl, hA, grownBy_refl _ _⟩
    case round =>
      obtain ⟨k, hk, rfl, hgr, hg4⟩ := hrel
      by_cases hlt : k < zs.length
      · obtain ⟨hx1, hdv⟩ := Hel.out k hlt
        have Hdv := Lib.hid hdv
        clear hdv
        rcases H4.out.2 with h0 | ⟨bx, ox, rfl, hbx, hcx⟩
        · rw [h0] at hlt; simp at hlt
        have hc := hcx k hlt
        generalize zs.getD k 0 = x at *
        obtain ⟨X, rfl⟩ : ∃ X : Nat, x = X := ⟨x.toNat, by omega⟩
        clear hcx hbx
        go_wp2_with fail
        go_loopw [6] (fun i wq => ∃ d : Nat, 1 ≤ d ∧ d ≤ X + 1 ∧ i = .int .i64 d ∧ w.grownBy wq none ∧ w4.grownBy wq none) (fun i _ => X + 1 - (intOf i).toNat)
        case atStart => exact ⟨1, by omega, by omega, rfl, hgr, hg4⟩
        case round =>
          obtain ⟨d, hd0, hd, rfl, hgq, hgq4⟩ := hrel
          have hcq := cell_grown hc hgq4
          have hcap : (k : Int) < (zs.length : Int) := by omega
          by_cases hld : d ≤ X
          · have z0 : ¬ ((d : Int) = 0) := by omega
            by_cases hm : X % d = 0
            · have gm : ((X : Int) % (d : Int) == 0) = true := by
                have : (X : Int) % (d : Int) = ((X % d : Nat) : Int) := rfl
                rw [this, hm]; rfl
              have hh := Hdv.out d hd0 (by omega)
              have HH := Lib.hid hh
              clear hm hh
              go_wp2_with fail
              refine (hasInt_any _ _ zs d _ (H4.out.grown hgq4)).mono ?_
              rintro e w5 ⟨rfl, g5⟩
              rw [HH.out]
              go_wp2_with fail
              go_roundw
              case rel => exact ⟨d + 1, by omega, by omega, by go_num, grownBy_trans hgq g5, grownBy_trans hgq4 g5⟩
              case measure => simp [intOf]; omega
            · have gm : ((X : Int) % (d : Int) == 0) = false := by
                have : (X : Int) % (d : Int) = ((X % d : Nat) : Int) := rfl
                rw [this, beq_eq_false_iff_ne]; omega
              clear hm
              go_wp2_with fail
              go_roundw
              case rel => exact ⟨d + 1, by omega, by omega, by go_num, hgq, hgq4⟩
              case measure => simp [intOf]; omega
          · obtain rfl : d = X + 1 := by omega
            go_wp2_with fail
            go_roundw
            case rel => exact ⟨k + 1, by omega, by go_num, hgq, hgq4⟩
            case measure => simp [intOf]; omega
      · obtain rfl : k = zs.length := by omega
        have HA := Lib.hid Has.out
        go_wp2_with fail
        refine (ascend_any _ _ zs _ (H4.out.grown hg4)).mono ?_
        rintro e w5 ⟨rfl, hg5⟩
        rw [Has.out]
        go_wp2_with fail
        refine (K1.out _).mono ?_
        rintro e w6 ⟨a6, c6, rfl, ho6, hg6⟩
        have H6 := Lib.hid (ho6.at (by unfold maxLen; simp))
        clear ho6
        go_wp2_with fail
        refine (sameInts_any _ _ _ _ [1] [1] _ (H6.out.grown (World.grownBy_alloc _ _ _)) (one_cell _ _ _)).mono ?_
        rintro e w7 ⟨rfl, hg7⟩
        rw [sameL_self]
        go_wp2_with fail
        refine (K2.out _).mono ?_
        rintro e w8 ⟨a8, c8, rfl, ho8, hg8⟩
        have H8 := Lib.hid (ho8.at (by unfold maxLen; simp))
        clear ho8
        go_wp2_with fail
        refine (sameInts_any _ _ _ _ [1] [1] _ (H8.out.grown (World.grownBy_alloc _ _ _)) (one_cell _ _ _)).mono ?_
        rintro e w9 ⟨rfl, hg9⟩
        rw [sameL_self]
        go_wp2_with fail
        refine (K3.out _).mono ?_
        rintro e w10 ⟨a10, c10, rfl, ho10, hg10⟩
        have H10 := Lib.hid (ho10.at (by unfold maxLen; simp))
        clear ho10
        go_wp2_with fail
        refine (sameInts_any _ _ _ _ [1, 2] [1, 2] _ (H10.out.grown (World.grownBy_alloc _ _ _)) (two_cells5 _ _ _ _)).mono ?_
        rintro e w11 ⟨rfl, hg11⟩
        rw [sameL_self]
        go_wp2_with fail
        go_ret
        exact ⟨rfl, below_of (grownBy_trans hgr (grownBy_trans hg5 (grownBy_trans (grownBy_trans hg6 (grownBy_trans (World.grownBy_alloc _ _ _) hg7)) (grownBy_trans (grownBy_trans hg8 (grownBy_trans (World.grownBy_alloc _ _ _) hg9)) (grownBy_trans hg10 (grownBy_trans (World.grownBy_alloc _ _ _) hg11))))))⟩

end Go.Proofs.Ytkkmoaenlnibiaa

/-
  The walks of FnGameOk and FnLeftOf.
-/
import Derived.Test.YthfikgaghinfbaaLRow
import Derived.Test.YthfikgaghinfbaaLImp
import Derived.Test.YthfikgaghinfbaaLDr2
namespace Go.Proofs.Ythfikgaghinfbaa
open Go.RowKit

theorem lints_made (w : World) (xs : List Int) (h : xs.length ≤ 8) : IntsAt (w.alloc (.cells (xs.map (Value.int .i64)).toArray 3)) (some ⟨w.heap.size, 0, none⟩) xs := by
  have := World.ownsRow_lit (e := 3) (size := 1) (base := 0) w (xs.map (Value.int .i64)).toArray xs.length (Nat.zero_le _) (by unfold maxLen; omega) (by simp)
  exact OwnI.at (cap := xs.length) (by unfold OwnI; simpa using this) (by unfold maxLen; omega)
theorem lgame_v (n : Int) (a : Option Addr) (cap : Nat) (xs : List Int) {v : Bool} (h : gameB n xs = v) (w : World) (hx : IntsAt w a xs) : Calls Try.prog 18 #[.int .i64 n, .slice a xs.length cap] w fun e w' => e = .returned (.bool v) ∧ w.grownBy w' none := by rw [← h]; exact igame_any n a cap xs w hx

set_option maxRecDepth 100000 in
set_option maxHeartbeats 4000000 in
theorem FnGameOk_walk (a0 : Option Addr) (len0 cap0 : Nat) (z0 : List Int) (w : World) (w0 : IsRow .u8 w a0 len0 cap0 z0) :
    Calls Try.prog 3 #[.slice a0 len0 cap0] w fun e w' => e = .returned (.bool true) ∧ Below w.heap.size w w' := by
  by_cases hl : (1048576 : Int) < (len0 : Int)
  · clear w0
    go_enter Try.func3, Try.ntmps3
    go_wp2_with fail
    go_ret
    exact ⟨rfl, Below.refl _ _⟩
  · go_enter Try.func3, Try.ntmps3
    go_wp2_with fail
    refine (DrawGameOk_any _ _ _ _ _ w0).mono ?_
    rintro e w1 ⟨n, xs, a, ca, rfl, n1, n2, x3, hX, g1⟩
    clear w0
    have HX := Lib.hid hX
    clear hX
    have c1 := lgame_v n a ca xs (v := gameB n xs) rfl
    have c2 := sgame_any n a ca xs
    have c3 : ∀ (w : World) (b : Nat), IntsAt w (some ⟨b, 0, none⟩) [1] → Calls Try.prog 18 #[.int .i64 1, .slice (some ⟨b, 0, none⟩) 1 1] w fun e w' => e = .returned (.bool true) ∧ w.grownBy w' none := fun w b h => lgame_v 1 (some ⟨b, 0, none⟩) 1 [1] (by decide +kernel) w h
    have c4 : ∀ (w : World) (b : Nat), IntsAt w (some ⟨b, 0, none⟩) [3] → Calls Try.prog 18 #[.int .i64 3, .slice (some ⟨b, 0, none⟩) 1 1] w fun e w' => e = .returned (.bool true) ∧ w.grownBy w' none := fun w b h => lgame_v 3 (some ⟨b, 0, none⟩) 1 [3] (by decide +kernel) w h
    have c5 : ∀ (w : World) (b : Nat), IntsAt w (some ⟨b, 0, none⟩) [] → Calls Try.prog 18 #[.int .i64 3, .slice (some ⟨b, 0, none⟩) 0 0] w fun e w' => e = .returned (.bool false) ∧ w.grownBy w' none := fun w b h => lgame_v 3 (some ⟨b, 0, none⟩) 0 [] (by decide +kernel) w h
    generalize gameB n xs = v at *
    have hvv : (v != v) = false := by simp
    go_wp2_with fail
    refine (c1 _ HX.out).mono ?_
    rintro e w2 ⟨rfl, g2⟩
    clear c1
    go_wp2_with fail
    refine (c2 _ (HX.out.grown g2)).mono ?_
    rintro e w3 ⟨rfl, rfl⟩
    clear c2
    go_wp2_with fail
    refine (c3 _ _ (lints_made _ [1] (by decide))).mono ?_
    rintro e w4 ⟨rfl, g4⟩
    clear c3
    go_wp2_with fail
    refine (c4 _ _ (lints_made _ [3] (by decide))).mono ?_
    rintro e w5 ⟨rfl, g5⟩
    clear c4
    go_wp2_with fail
    refine (c5 _ _ (lints_made _ [] (by decide))).mono ?_
    rintro e w6 ⟨rfl, g6⟩
    clear c5
    go_wp2_with (go_at_call 20; refine (alive_any _).mono ?_; rintro e w' ⟨rfl, rfl⟩)
    go_ret
    exact ⟨rfl, below_of (grownBy_trans g1 (grownBy_trans g2 (grownBy_trans (grownBy_trans (World.grownBy_alloc _ _ none) g4) (grownBy_trans (grownBy_trans (World.grownBy_alloc _ _ none) g5) (grownBy_trans (World.grownBy_alloc _ _ none) g6)))))⟩

def SumRel (xs : List Int) (w : World) (s i : Value) (wr : World) : Prop := ∃ k : Nat, k ≤ xs.length ∧ s = .int .i64 (sumK xs k) ∧ i = .int .i64 k ∧ w.grownBy wr none
def LstRel (P : Nat) (w : World) (i : Value) (wr : World) : Prop := ∃ S : Nat, S ≤ P ∧ i = .int .i64 S ∧ w.grownBy wr none
theorem sum_le {row : List Int} (h : ∀ k, k < row.length → 0 ≤ row.getD k 0 ∧ row.getD k 0 ≤ 3) : ∀ k, k ≤ row.length → 0 ≤ sumK row k ∧ sumK row k ≤ 3 * k
  | 0, _ => by simp [sumK]
  | k + 1, hk => by
    have a := sum_le h k (by omega)
    have b := h k (by omega)
    show 0 ≤ sumK row k + row.getD k 0 ∧ sumK row k + row.getD k 0 ≤ 3 * ((k + 1 : Nat) : Int)
    omega
theorem ansW_in {n : Int} {xs : List Int} (hg : gameB n xs = true) {S : Nat} (hS : S < 2 ^ xs.length) (y : Bool) : ansW n xs (S : Int) y = ansL xs S y := by
  unfold ansW
  have e : ((2 ^ xs.length : Nat) : Int) = 2 ^ xs.length := by push_cast; rfl
  rw [if_pos ⟨hg, inB_t ⟨by omega, by rw [← e]; omega⟩⟩]
  rfl

set_option maxRecDepth 100000 in
set_option maxHeartbeats 4000000 in
theorem FnLeftOf_walk (a0 : Option Addr) (len0 cap0 : Nat) (z0 : List Int) (w : World) (w0 : IsRow .u8 w a0 len0 cap0 z0) :
    Calls Try.prog 5 #[.slice a0 len0 cap0] w fun e w' => e = .returned (.bool true) ∧ Below w.heap.size w w' := by
  by_cases hl : (1048576 : Int) < (len0 : Int)
  · clear w0
    go_enter Try.func5, Try.ntmps5
    go_wp2_with fail
    go_ret
    exact ⟨rfl, Below.refl _ _⟩
  · go_enter Try.func5, Try.ntmps5
    go_wp2_with fail
    refine (DrawLeftOf_any _ _ _ _ _ w0).mono ?_
    rintro e w1 ⟨n, xs, a, ca, rfl, n1, n2, x3, hX, g1⟩
    clear w0
    have HX := Lib.hid hX
    clear hX
    have c1 := fun w h => ileft_any n a ca xs w h
    have c2 := fun w h => sleft_any n a ca xs w h
    cases hg : gameB n xs
    · rw [leftW_f hg] at c1 c2
      clear hg
      go_wp2_with fail
      refine (c1 _ HX.out).mono ?_
      rintro e w2 ⟨rfl, g2⟩
      clear c1
      go_wp2_with fail
      refine (c2 _ (HX.out.grown g2)).mono ?_
      rintro e w3 ⟨rfl, rfl⟩
      clear c2
      go_wp2_with (go_at_call 20; refine (alive_any _).mono ?_; rintro e w' ⟨rfl, rfl⟩)
      go_ret
      exact ⟨rfl, below_of (grownBy_trans g1 g2)⟩
    · rw [leftW_t hg] at c1 c2
      obtain ⟨hn, hL, hx⟩ := gameB_of hg
      have hx0 : ∀ k, k < xs.length → 0 ≤ xs.getD k 0 := fun k hk => (hx k hk).1
      have HX3 := Lib.hid (fun k hk => (⟨(hx k hk).1, by have := (hx k hk).2; omega⟩ : 0 ≤ xs.getD k 0 ∧ xs.getD k 0 ≤ 3))
      obtain ⟨m0, m1, m2, m3⟩ := left_le hx0 xs.length (Nat.le_refl _)
      have HM := Lib.hid m3
      have HLA := Lib.hid (fun S => left_ans hx0 S true xs.length (Nat.le_refl _))
      have HG := Lib.hid hg
      have hP := pow_wrap hL
      have tp := two_pow hL
      obtain ⟨P, hPP⟩ : ∃ P : Nat, 2 ^ xs.length = P := ⟨_, rfl⟩
      have HPP := Lib.hid hPP
      have e2 : (2 : Int) ^ xs.length = (P : Int) := by rw [← hPP]; push_cast; rfl
      obtain ⟨p1, p2⟩ := hP
      rw [e2] at p1 p2 tp
      have p1' : wrap64 (2 ^ xs.length) = (P : Int) := by rw [e2]; exact p1
      have p2' : IntKind.i64.wrap (2 ^ xs.length) = (P : Int) := by rw [e2]; exact p2
      have E2 := Lib.hid e2
      have l1 : (1 : Int) ≤ (xs.length : Int) := by omega
      have l3 : (xs.length : Int) ≤ 3 := by omega
      have HL := Lib.hid hL
      have heq : Hid (leftL xs = leftK xs xs.length) := rfl
      rw [show leftL xs = leftK xs xs.length from rfl] at c1 c2
      clear hg hn hL hx hx0 m3 hPP e2 p1 p2 heq
      generalize leftK xs xs.length = m at *
      have hmm : (m != m) = false := by simp
      have hm0 : ¬ (m < 0) := by omega
      go_wp2_with fail
      refine (c1 _ HX.out).mono ?_
      rintro e w2 ⟨rfl, g2⟩
      clear c1
      go_wp2_with fail
      refine (c2 _ (HX.out.grown g2)).mono ?_
      rintro e w3 ⟨rfl, rfl⟩
      clear c2
      have G2 := Lib.hid (grownBy_trans g1 g2)
      have HX2 := Lib.hid (HX.out.grown g2)
      clear g1 g2
      go_wp2_with fail
      go_loopw [6, 7] (fun s i wr => SumRel xs w2 s i wr) (fun _ i _ => xs.length - (intOf i).toNat)
      case atStart => exact ⟨0, by omega, rfl, rfl, grownBy_refl _ _⟩
      case round =>
        obtain ⟨k, hk, rfl, rfl, hgr⟩ := hrel
        by_cases hlt : k < xs.length
        · rcases (HX2.out.grown hgr).2 with h0 | ⟨bx, ox, rfl, hbx, hcx⟩
          · rw [h0] at hlt; simp at hlt
          have hc := hcx k hlt
          have b1 := sum_le HX3.out k (by omega)
          have b2 := HX3.out k hlt
          have hs : Hid (sumK xs (k + 1) = sumK xs k + xs.getD k 0) := rfl
          clear hcx hbx
          generalize xs.getD k 0 = q at *
          generalize sumK xs k = s at *
          go_wp2_with fail
          go_roundw
          case rel => exact ⟨k + 1, by omega, by rw [hs.out], by go_num, hgr⟩
          case measure => simp [intOf]; omega
        · obtain rfl : k = xs.length := by omega
          have HGR := Lib.hid hgr
          generalize sumK xs xs.length = sm at *
          clear hgr hk hlt
          go_wp2_with fail
          go_loopw [8] (fun i wx => LstRel P wr i wx) (fun i _ => P - (intOf i).toNat)
          case atStart => exact ⟨0, by omega, rfl, grownBy_refl _ _⟩
          case round =>
            obtain ⟨S, hS, rfl, hgr⟩ := hrel
            by_cases hlt : S < P
            · have hSP : S < 2 ^ xs.length := by rw [HPP.out]; exact hlt
              have c3 := iansw_any n a ca xs (S : Int) true wr (HX2.out.grown (grownBy_trans HGR.out hgr))
              rw [ansW_in HG.out hSP] at c3
              have hle := HLA.out S
              have c4 := fun d e w (h : IntsAt w d (ansL xs S true)) => ileft_any n d e (ansL xs S true) w h
              rw [leftW_t (ans_game HG.out S true)] at c4
              have hk : leftL (ansL xs S true) = leftK (ansL xs S true) xs.length := by unfold leftL; rw [ans_len]
              rw [hk] at c4
              have HZ := Lib.hid (show (ansL xs S true).length ≤ maxLen by rw [ans_len]; have := HL.out; unfold maxLen; omega)
              have HGR2 := Lib.hid hgr
              clear hk hSP hgr
              generalize leftK (ansL xs S true) xs.length = q at *
              have sP : (S : Int) < (P : Int) := by omega
              have S0 : (0 : Int) ≤ (S : Int) := by omega
              have hq : ¬ (m < q) := by omega
              go_wp2_with fail
              refine c3.mono ?_
              rintro e w5 ⟨d, e1, rfl, hO, g5⟩
              clear c3
              have c5 := c4 d e1 w5 (hO.at HZ.out)
              have G5 := Lib.hid (grownBy_trans HGR2.out g5)
              clear hO g5 c4
              go_wp2_with fail
              refine c5.mono ?_
              rintro e w6 ⟨rfl, g6⟩
              clear c5
              have G6 := Lib.hid (grownBy_trans G5.out g6)
              clear g6
              go_wp2_with fail
              go_roundw
              case rel => exact ⟨S + 1, by omega, by go_num, G6.out⟩
              case measure => simp [intOf]; omega
            · obtain rfl : S = P := by omega
              clear hlt hS
              have hlm : m ≤ (xs.length : Int) := by omega
              have hiff := HM.out
              by_cases h0 : m = 0
              · have h1 : sm = 0 := hiff.1 h0
                have e0 : (m == 0) = true := by simpa using h0
                have e1 : (sm == 0) = true := by simpa using h1
                have d1 : decide (m ≤ (xs.length : Int)) = true := decide_eq_true hlm
                clear hiff
                have hh0 := Lib.hid h0
                have hh1 := Lib.hid h1
                clear h0 h1
                go_wp2_with fail
                go_ret
                exact ⟨rfl, below_of (grownBy_trans G2.out (grownBy_trans HGR.out hgr))⟩
              · have h1 : ¬ sm = 0 := fun e => h0 (hiff.2 e)
                have e0 : (m == 0) = false := by simpa using h0
                have e1 : (sm == 0) = false := by simpa using h1
                have d1 : decide (m ≤ (xs.length : Int)) = true := decide_eq_true hlm
                clear hiff
                go_wp2_with fail
                go_ret
                exact ⟨rfl, below_of (grownBy_trans G2.out (grownBy_trans HGR.out hgr))⟩

end Go.Proofs.Ythfikgaghinfbaa

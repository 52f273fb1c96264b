/-
  The model's l11Answered, AnswerTo, l11Code, l11Chosen.
-/
import Derived.Test.YthfikgaghinfbaaLSpec
import Derived.Test.YthfikgaghinfbaaRow
namespace Go.Proofs.Ythfikgaghinfbaa
open Go.RowKit

/-- The values so far. -/
def aK (xs : List Int) (s : Nat) (y : Bool) (k : Nat) : List Int := (List.range k).map (ansK xs s y)
theorem aK_len (xs : List Int) (s : Nat) (y : Bool) (k : Nat) : (aK xs s y k).length = k := by simp [aK]
theorem aK_step (xs : List Int) (s : Nat) (y : Bool) (k : Nat) : aK xs s y (k + 1) = aK xs s y k ++ [ansK xs s y k] := by unfold aK; rw [List.range_succ, List.map_append]; rfl
theorem bit_int (s k : Nat) : (((s : Int) / 2 ^ k).tmod 2 == 1) = bitB s k := by
  have e : (s : Int) / 2 ^ k = ((s / 2 ^ k : Nat) : Int) := by rw [Int.natCast_ediv]; congr 1
  rw [e, Int.tmod_eq_emod_of_nonneg (Int.natCast_nonneg _)]
  unfold bitB
  generalize s / 2 ^ k = d
  rw [Bool.eq_iff_iff]
  simp only [beq_iff_eq]
  omega
def AnsRel (xs : List Int) (s : Nat) (y : Bool) (w : World) (v i : Value) (wr : World) : Prop := ∃ k : Nat, k ≤ xs.length ∧ i = .int .i64 k ∧ RowRel (aK xs s y k) w.heap.size w v wr

set_option maxHeartbeats 2000000 in
theorem sansd_any (a : Option Addr) (cap : Nat) (xs : List Int) (s : Nat) (y : Bool) (w : World) (h : IntsAt w a xs) (hl : xs.length ≤ 3) (hx : ∀ k, k < xs.length → 0 ≤ xs.getD k 0 ∧ xs.getD k 0 ≤ 3) :
    Calls Try.prog 53 #[.slice a xs.length cap, .int .i64 s, .bool y] w (IntsPost (ansL xs s y) w) := by
  obtain ⟨i0, hi, hz0, hz1, hz2⟩ := info_parts infoInt
  have H := Lib.hid h
  have HX := Lib.hid hx
  clear h hx
  go_enter Try.func53, Try.ntmps53
  go_wp2
  go_loopw [7, 8] (fun v i wr => AnsRel xs s y w v i wr) (fun _ i _ => xs.length - (intOf i).toNat)
  case atStart => exact ⟨0, by omega, rfl, _, 0, rfl, OwnI.made w, World.grownBy_alloc _ _ _⟩
  case round =>
    obtain ⟨k, hk, rfl, b, cb, rfl, hown, hgr⟩ := hrel
    have hlen : (aK xs s y k).length ≤ 3 := by rw [aK_len]; omega
    by_cases hlt : k < xs.length
    · rcases H.out.2 with h0 | ⟨bx, ox, rfl, hbx, hcx⟩
      · rw [h0] at hlt; simp at hlt
      have hc := hgr.cell (hcx k hlt) (by simp)
      have hq := HX.out k hlt
      have hb := bit_int s k
      have hst := aK_step xs s y k
      have hak : ansK xs s y k = if (bitB s k != y) = true then dn (xs.getD k 0) else xs.getD k 0 := rfl
      clear hcx hbx
      generalize xs.getD k 0 = q at *
      cases hbit : bitB s k
      · rw [hbit] at hb hak
        clear hbit
        cases y
        · have hak : _ = q := hak
          have e : Hid (aK xs s false (k + 1) = aK xs s false k ++ [q]) := by unfold Hid; rw [hst, hak]
          clear hst hak
          go_wp2_with (at_builtin; refine wpList_append_own _ rfl _ _ 23 rfl w.heap.size 3 i0 (.int .i64 0) 1 8 Try.underlying23 hi hz0 hz1 hz2 rfl (by decide) _ _ _ rfl (World.ownsRow.alloc hown _) ⟨wr.heap.size, 0, none⟩ 1 1 [.int .i64 (q)] rfl rfl ?c1p ?c2p ?c3p ?c4p ?c5p ?_)
          case c1p =>
            intro j u hj
            match j, hj with
            | 0, hj => simp at hj; subst hj; simp [Addr.add]
          case c2p => intro u hu; simp at hu; subst hu; rfl
          case c3p => unfold maxLen; omega
          case c4p => omega
          case c5p => have := hgr.size; simp; omega
          intro v' w3 hown' hgrow _
          have R := row_more hown hgr hown' (grow_box hgrow)
          rw [← e.out] at R
          clear hown hown' hgrow
          go_wp2
          go_roundw
          case rel => exact ⟨k + 1, by omega, by go_num, R⟩
          case measure => simp [intOf]; omega
        · have hak : _ = dn q := hak
          by_cases h1 : 0 < q - 1
          · have e : Hid (aK xs s true (k + 1) = aK xs s true k ++ [q - 1]) := by unfold Hid; rw [hst, hak]; unfold dn; rw [if_pos h1]
            clear hst hak
            go_wp2_with (at_builtin; refine wpList_append_own _ rfl _ _ 23 rfl w.heap.size 3 i0 (.int .i64 0) 1 8 Try.underlying23 hi hz0 hz1 hz2 rfl (by decide) _ _ _ rfl (World.ownsRow.alloc hown _) ⟨wr.heap.size, 0, none⟩ 1 1 [.int .i64 (q - 1)] rfl rfl ?c1q ?c2q ?c3q ?c4q ?c5q ?_)
            case c1q =>
              intro j u hj
              match j, hj with
              | 0, hj => simp at hj; subst hj; simp [Addr.add]
            case c2q => intro u hu; simp at hu; subst hu; rfl
            case c3q => unfold maxLen; omega
            case c4q => omega
            case c5q => have := hgr.size; simp; omega
            intro v' w3 hown' hgrow _
            have R := row_more hown hgr hown' (grow_box hgrow)
            rw [← e.out] at R
            clear hown hown' hgrow
            go_wp2
            go_roundw
            case rel => exact ⟨k + 1, by omega, by go_num, R⟩
            case measure => simp [intOf]; omega
          · have e : Hid (aK xs s true (k + 1) = aK xs s true k ++ [0]) := by unfold Hid; rw [hst, hak]; unfold dn; rw [if_neg h1]
            clear hst hak
            have hq2 : q = 0 ∨ q = 1 := by omega
            rcases hq2 with rfl | rfl
            · clear h1 hq
              go_wp2_with (at_builtin; refine wpList_append_own _ rfl _ _ 23 rfl w.heap.size 3 i0 (.int .i64 0) 1 8 Try.underlying23 hi hz0 hz1 hz2 rfl (by decide) _ _ _ rfl (World.ownsRow.alloc hown _) ⟨wr.heap.size, 0, none⟩ 1 1 [.int .i64 (0)] rfl rfl ?c1r ?c2r ?c3r ?c4r ?c5r ?_)
              case c1r =>
                intro j u hj
                match j, hj with
                | 0, hj => simp at hj; subst hj; simp [Addr.add]
              case c2r => intro u hu; simp at hu; subst hu; rfl
              case c3r => unfold maxLen; omega
              case c4r => omega
              case c5r => have := hgr.size; simp; omega
              intro v' w3 hown' hgrow _
              have R := row_more hown hgr hown' (grow_box hgrow)
              rw [← e.out] at R
              clear hown hown' hgrow
              go_wp2
              go_roundw
              case rel => exact ⟨k + 1, by omega, by go_num, R⟩
              case measure => simp [intOf]; omega
            · clear h1 hq
              go_wp2_with (at_builtin; refine wpList_append_own _ rfl _ _ 23 rfl w.heap.size 3 i0 (.int .i64 0) 1 8 Try.underlying23 hi hz0 hz1 hz2 rfl (by decide) _ _ _ rfl (World.ownsRow.alloc hown _) ⟨wr.heap.size, 0, none⟩ 1 1 [.int .i64 (0)] rfl rfl ?c1s ?c2s ?c3s ?c4s ?c5s ?_)
              case c1s =>
                intro j u hj
                match j, hj with
                | 0, hj => simp at hj; subst hj; simp [Addr.add]
              case c2s => intro u hu; simp at hu; subst hu; rfl
              case c3s => unfold maxLen; omega
              case c4s => omega
              case c5s => have := hgr.size; simp; omega
              intro v' w3 hown' hgrow _
              have R := row_more hown hgr hown' (grow_box hgrow)
              rw [← e.out] at R
              clear hown hown' hgrow
              go_wp2
              go_roundw
              case rel => exact ⟨k + 1, by omega, by go_num, R⟩
              case measure => simp [intOf]; omega
      · rw [hbit] at hb hak
        clear hbit
        cases y
        · have hak : _ = dn q := hak
          by_cases h1 : 0 < q - 1
          · have e : Hid (aK xs s false (k + 1) = aK xs s false k ++ [q - 1]) := by unfold Hid; rw [hst, hak]; unfold dn; rw [if_pos h1]
            clear hst hak
            go_wp2_with (at_builtin; refine wpList_append_own _ rfl _ _ 23 rfl w.heap.size 3 i0 (.int .i64 0) 1 8 Try.underlying23 hi hz0 hz1 hz2 rfl (by decide) _ _ _ rfl (World.ownsRow.alloc hown _) ⟨wr.heap.size, 0, none⟩ 1 1 [.int .i64 (q - 1)] rfl rfl ?c1t ?c2t ?c3t ?c4t ?c5t ?_)
            case c1t =>
              intro j u hj
              match j, hj with
              | 0, hj => simp at hj; subst hj; simp [Addr.add]
            case c2t => intro u hu; simp at hu; subst hu; rfl
            case c3t => unfold maxLen; omega
            case c4t => omega
            case c5t => have := hgr.size; simp; omega
            intro v' w3 hown' hgrow _
            have R := row_more hown hgr hown' (grow_box hgrow)
            rw [← e.out] at R
            clear hown hown' hgrow
            go_wp2
            go_roundw
            case rel => exact ⟨k + 1, by omega, by go_num, R⟩
            case measure => simp [intOf]; omega
          · have e : Hid (aK xs s false (k + 1) = aK xs s false k ++ [0]) := by unfold Hid; rw [hst, hak]; unfold dn; rw [if_neg h1]
            clear hst hak
            have hq2 : q = 0 ∨ q = 1 := by omega
            rcases hq2 with rfl | rfl
            · clear h1 hq
              go_wp2_with (at_builtin; refine wpList_append_own _ rfl _ _ 23 rfl w.heap.size 3 i0 (.int .i64 0) 1 8 Try.underlying23 hi hz0 hz1 hz2 rfl (by decide) _ _ _ rfl (World.ownsRow.alloc hown _) ⟨wr.heap.size, 0, none⟩ 1 1 [.int .i64 (0)] rfl rfl ?c1u ?c2u ?c3u ?c4u ?c5u ?_)
              case c1u =>
                intro j u hj
                match j, hj with
                | 0, hj => simp at hj; subst hj; simp [Addr.add]
              case c2u => intro u hu; simp at hu; subst hu; rfl
              case c3u => unfold maxLen; omega
              case c4u => omega
              case c5u => have := hgr.size; simp; omega
              intro v' w3 hown' hgrow _
              have R := row_more hown hgr hown' (grow_box hgrow)
              rw [← e.out] at R
              clear hown hown' hgrow
              go_wp2
              go_roundw
              case rel => exact ⟨k + 1, by omega, by go_num, R⟩
              case measure => simp [intOf]; omega
            · clear h1 hq
              go_wp2_with (at_builtin; refine wpList_append_own _ rfl _ _ 23 rfl w.heap.size 3 i0 (.int .i64 0) 1 8 Try.underlying23 hi hz0 hz1 hz2 rfl (by decide) _ _ _ rfl (World.ownsRow.alloc hown _) ⟨wr.heap.size, 0, none⟩ 1 1 [.int .i64 (0)] rfl rfl ?c1v ?c2v ?c3v ?c4v ?c5v ?_)
              case c1v =>
                intro j u hj
                match j, hj with
                | 0, hj => simp at hj; subst hj; simp [Addr.add]
              case c2v => intro u hu; simp at hu; subst hu; rfl
              case c3v => unfold maxLen; omega
              case c4v => omega
              case c5v => have := hgr.size; simp; omega
              intro v' w3 hown' hgrow _
              have R := row_more hown hgr hown' (grow_box hgrow)
              rw [← e.out] at R
              clear hown hown' hgrow
              go_wp2
              go_roundw
              case rel => exact ⟨k + 1, by omega, by go_num, R⟩
              case measure => simp [intOf]; omega
        · have hak : _ = q := hak
          have e : Hid (aK xs s true (k + 1) = aK xs s true k ++ [q]) := by unfold Hid; rw [hst, hak]
          clear hst hak
          go_wp2_with (at_builtin; refine wpList_append_own _ rfl _ _ 23 rfl w.heap.size 3 i0 (.int .i64 0) 1 8 Try.underlying23 hi hz0 hz1 hz2 rfl (by decide) _ _ _ rfl (World.ownsRow.alloc hown _) ⟨wr.heap.size, 0, none⟩ 1 1 [.int .i64 (q)] rfl rfl ?c1w ?c2w ?c3w ?c4w ?c5w ?_)
          case c1w =>
            intro j u hj
            match j, hj with
            | 0, hj => simp at hj; subst hj; simp [Addr.add]
          case c2w => intro u hu; simp at hu; subst hu; rfl
          case c3w => unfold maxLen; omega
          case c4w => omega
          case c5w => have := hgr.size; simp; omega
          intro v' w3 hown' hgrow _
          have R := row_more hown hgr hown' (grow_box hgrow)
          rw [← e.out] at R
          clear hown hown' hgrow
          go_wp2
          go_roundw
          case rel => exact ⟨k + 1, by omega, by go_num, R⟩
          case measure => simp [intOf]; omega
    · obtain rfl : k = xs.length := by omega
      have hz : Hid (aK xs s y xs.length = ansL xs s y) := rfl
      go_wp2
      go_ret
      exact ⟨b, cb, by rw [← hz.out]; rfl, by rw [← hz.out]; exact hown, hgr⟩

def ansW (n : Int) (xs : List Int) (s : Int) (y : Bool) : List Int := if gameB n xs = true ∧ inB s 0 (2 ^ xs.length - 1) = true then ansL xs s.toNat y else []
theorem two_pow {l : Nat} (h : 1 ≤ l ∧ l ≤ 3) : (2 : Int) ≤ 2 ^ l ∧ (2 : Int) ^ l ≤ 8 := by
  have : l = 1 ∨ l = 2 ∨ l = 3 := by omega
  rcases this with rfl | rfl | rfl <;> decide

set_option maxHeartbeats 1000000 in
theorem sans_any (n : Int) (a : Option Addr) (cap : Nat) (xs : List Int) (s : Int) (y : Bool) (w : World) (h : IntsAt w a xs) :
    Calls Try.prog 24 #[.int .i64 n, .slice a xs.length cap, .int .i64 s, .bool y] w (IntsPost (ansW n xs s y) w) := by
  have cg := sgame_any n a cap xs w h
  have H := Lib.hid h
  clear h
  have hno : ∀ zs, zs = [] → Hid (IntsPost zs w (.returned (.slice (some ⟨w.heap.size, 0, none⟩) 0 0)) (w.alloc (.cells #[] 3))) := fun zs hz => by rw [hz]; exact ⟨_, 0, rfl, OwnI.made w, World.grownBy_alloc _ _ _⟩
  cases hg : gameB n xs
  · have hp := hno (ansW n xs s y) (if_neg (by rw [hg]; simp))
    rw [hg] at cg
    clear hno
    go_enter Try.func24, Try.ntmps24
    go_wp2_with fail
    refine cg.mono ?_
    rintro e w' ⟨rfl, rfl⟩
    clear cg
    go_wp2_with fail
    go_ret
    exact hp.out
  · rw [hg] at cg
    obtain ⟨hn, hl, hx⟩ := gameB_of hg
    have tp := two_pow hl
    have HX := Lib.hid (fun k hk => (⟨(hx k hk).1, by have := (hx k hk).2; omega⟩ : 0 ≤ xs.getD k 0 ∧ xs.getD k 0 ≤ 3))
    have hW : ∀ b, inB s 0 (2 ^ xs.length - 1) = b → ansW n xs s y = if b = true then ansL xs s.toNat y else [] := fun b hb => by unfold ansW; rw [hb, hg]; simp
    obtain ⟨P, hP⟩ : ∃ P : Int, 2 ^ xs.length = P := ⟨_, rfl⟩
    rw [hP] at tp hW
    have hsh : wrap64 (2 ^ xs.length) = P := by rw [hP]; unfold wrap64; omega
    have hsh' : IntKind.i64.wrap (2 ^ xs.length) = P := by rw [hP]; exact IntWalk.i64_in _ (by omega)
    clear hx hP
    cases hs : inB s 0 (P - 1)
    · have hp := hno (ansW n xs s y) (by rw [hW false hs]; simp)
      clear hno hW
      go_enter Try.func24, Try.ntmps24
      go_wp2_with fail
      refine cg.mono ?_
      rintro e w' ⟨rfl, rfl⟩
      clear cg
      go_wp2_with fail
      refine (in_any s 0 (P - 1) _).mono ?_
      rw [hs]
      rintro e w' ⟨rfl, rfl⟩
      go_wp2_with fail
      go_ret
      exact hp.out
    · obtain ⟨S, rfl⟩ := Int.eq_ofNat_of_zero_le (inB_of hs).1
      have hW := hW true hs
      have c2 := sansd_any a cap xs S y w H.out hl.2 HX.out
      have hz : Hid (ansW n xs (S : Int) y = ansL xs S y) := by unfold Hid; rw [hW]; rfl
      clear hW hno
      go_enter Try.func24, Try.ntmps24
      go_wp2_with fail
      refine cg.mono ?_
      rintro e w' ⟨rfl, rfl⟩
      clear cg
      go_wp2_with fail
      refine (in_any (S : Int) 0 (P - 1) _).mono ?_
      rw [hs]
      rintro e w' ⟨rfl, rfl⟩
      go_wp2_with fail
      refine c2.mono ?_
      rintro e w2 ⟨b, cb, rfl, hO, hg2⟩
      clear c2
      have HO := Lib.hid hO
      have HG := Lib.hid hg2
      clear hO hg2
      go_wp2_with fail
      go_ret
      exact ⟨b, cb, by rw [hz.out]; rfl, by rw [hz.out]; exact HO.out, HG.out⟩

/-! How many sets there are. -/

theorem ch_tab : ((List.range 13).all fun n => (List.range 13).all fun k => chN n k ≤ 4096) = true := by decide +kernel
theorem ch_le {n k : Nat} (hn : n ≤ 12) (hk : k ≤ 12) : chN n k ≤ 4096 := by
  have h := ch_tab
  rw [List.all_eq_true] at h
  have h := h n (List.mem_range.2 (by omega))
  rw [List.all_eq_true] at h
  simpa using h k (List.mem_range.2 (by omega))

set_option maxHeartbeats 1000000 in
theorem sch_any : ∀ (n : Nat), n ≤ 12 → ∀ (k : Nat), k ≤ 12 → ∀ w : World,
    Calls Try.prog 57 #[.int .i64 n, .int .i64 k] w fun e w' => e = .returned (.int .i64 (chN n k : Nat)) ∧ w = w'
  | n, _, 0, _, w => by
    have hz := Lib.hid (chN_zero n)
    go_enter Try.func57, Try.ntmps57
    go_wp2_with fail
    go_ret
    exact ⟨by rw [hz.out]; rfl, rfl⟩
  | 0, _, k + 1, _, w => by
    have hz : Hid (chN 0 (k + 1) = 0) := rfl
    have h1 : ¬ (((k + 1 : Nat) : Int) = 0) := by omega
    have h2 : (0 : Int) < ((k + 1 : Nat) : Int) := by omega
    generalize ((k + 1 : Nat) : Int) = K at *
    go_enter Try.func57, Try.ntmps57
    go_wp2_with fail
    go_ret
    exact ⟨by rw [hz.out]; rfl, rfl⟩
  | n + 1, hn, k + 1, hk, w => by
    by_cases hgt : n + 1 < k + 1
    · have hz := Lib.hid (chN_gt (n + 1) (k + 1) hgt)
      have h1 : ¬ (((k + 1 : Nat) : Int) = 0) := by omega
      have h2 : ((n + 1 : Nat) : Int) < ((k + 1 : Nat) : Int) := by omega
      generalize ((k + 1 : Nat) : Int) = K at *
      generalize ((n + 1 : Nat) : Int) = M at *
      go_enter Try.func57, Try.ntmps57
      go_wp2_with fail
      go_ret
      exact ⟨by rw [hz.out]; rfl, rfl⟩
    · have c1 := sch_any n (by omega) (k + 1) hk
      have c2 := sch_any n (by omega) k (by omega)
      have b1 := ch_le (n := n) (k := k + 1) (by omega) hk
      have b2 := ch_le (n := n) (k := k) (by omega) (by omega)
      have hz : Hid (chN (n + 1) (k + 1) = chN n (k + 1) + chN n k) := rfl
      have h1 : ¬ (((k + 1 : Nat) : Int) = 0) := by omega
      have h2 : ((k + 1 : Nat) : Int) ≤ ((n + 1 : Nat) : Int) := by omega
      have h3 : ((n + 1 : Nat) : Int) - 1 = (n : Int) := by omega
      have h4 : ((k + 1 : Nat) : Int) - 1 = (k : Int) := by omega
      have h5 : (n : Int) ≤ 12 := by omega
      have h6 : (k : Int) ≤ 12 := by omega
      have h7 : (0 : Int) ≤ (n : Int) := by omega
      have h8 : (0 : Int) ≤ (k : Int) := by omega
      generalize ((k + 1 : Nat) : Int) = K at *
      generalize ((n + 1 : Nat) : Int) = M at *
      generalize chN n (k + 1) = A at *
      generalize chN n k = B at *
      clear hgt hn hk
      go_enter Try.func57, Try.ntmps57
      go_wp2_with fail
      refine (c1 _).mono ?_
      rintro e w' ⟨rfl, rfl⟩
      go_wp2_with fail
      refine (c2 _).mono ?_
      rintro e w' ⟨rfl, rfl⟩
      go_wp2_with fail
      go_ret
      exact ⟨by rw [hz.out]; refine congrArg (fun z : Int => Ending.returned (Value.int .i64 z)) ?_; omega, rfl⟩

end Go.Proofs.Ythfikgaghinfbaa

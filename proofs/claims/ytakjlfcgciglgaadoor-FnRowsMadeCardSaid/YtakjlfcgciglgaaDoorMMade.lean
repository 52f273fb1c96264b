/-
  The model's RowsMade: all rows that may be said, in the order of their numbers.
-/
import Derived.Test.YtakjlfcgciglgaaDoorMNum
import Derived.Maps.AppendAt
namespace Go.Proofs.YtakjlfcgciglgaaDoor
open Go.RowKit

def pwN (N k : Nat) : Nat := (N + 1) ^ k
theorem pwN_succ (N k : Nat) : pwN N (k + 1) = pwN N k * (N + 1) := Nat.pow_succ ..
theorem pwN_small {N k : Nat} (hN : N ≤ 4) (hk : k ≤ 5) : pwN N k ≤ 3125 := pow_small hN hk
theorem pwN_pos (N k : Nat) : 1 ≤ pwN N k := Nat.pow_pos (by omega)
theorem min_folM {N a b : Nat} (ha : a ≤ N) : (if (N : Int) - (a : Int) + (b : Int) < (N : Int) then (N : Int) - (a : Int) + (b : Int) else (N : Int)) = ((folN N a b : Nat) : Int) := by
  unfold folN
  by_cases h1 : (N : Int) - (a : Int) + (b : Int) < (N : Int)
  · rw [if_pos h1, if_pos (by omega)]; omega
  · rw [if_neg h1]
    by_cases h2 : N - a + b ≤ N
    · rw [if_pos h2]; omega
    · rw [if_neg h2]
def rowsM (n : Int) : List (List Nat) := if inB n 1 4 = true then outTo n.toNat (pwN n.toNat (n.toNat + 1)) else []
theorem rowsM_f {n : Int} (h : inB n 1 4 = false) : rowsM n = [] := if_neg (by rw [h]; simp)
theorem rowsM_t {N : Nat} (h : 1 ≤ N ∧ N ≤ 4) : rowsM N = outTo N (pwN N (N + 1)) := by unfold rowsM; rw [if_pos (inB_t (by omega))]; rfl
/-- What is left: a list of rows that the call made. -/
def RowsMPost (N : Nat) (rs : List (List Nat)) (w : World) (e : Ending) (w' : World) : Prop :=
  ∃ v, e = .returned v ∧ ListAt w' w.heap.size N v rs ∧ w.grownBy w' none
theorem ListAt.empty (w : World) (N : Nat) : ListAt (w.alloc (.cells #[] 29)) w.heap.size N (.slice (some ⟨w.heap.size, 0, none⟩) 0 0) [] :=
  ⟨[], World.ownsRow_lit w #[] 0 (Nat.le_refl _) (by unfold maxLen; omega) rfl, fun i hi => absurd hi (by simp)⟩

set_option maxRecDepth 100000 in
set_option maxHeartbeats 4000000 in
theorem srows_no (n : Int) (w : World) (h : inB n 1 4 = false) :
    Calls Tryd.prog 7 #[.int .i64 n] w (RowsMPost n.toNat [] w) := by
  have ci := fun w => in_any n 1 4 w
  rw [h] at ci
  clear h
  go_enter Tryd.func7, Tryd.ntmps7
  go_wp2_with (go_at_call 21; refine (ci _).mono ?_; rintro e w' ⟨rfl, rfl⟩)
  go_ret
  exact ⟨_, rfl, ListAt.empty w _, World.grownBy_alloc _ _ none⟩

theorem own_mono {w : World} {base b2 : Nat} {e : TypeId} {v : Value} {n : Nat} {xs : List Value} (h : w.ownsRow base e 1 v n xs) (hb : b2 ≤ base) : w.ownsRow b2 e 1 v n xs := by
  refine ⟨h.1, ?_⟩
  rcases h.2 with ⟨h1, h2⟩ | ⟨g, c, u, h1, h2, h3⟩
  · exact .inl ⟨h1, h2⟩
  · exact .inr ⟨g, c, u, h1, Nat.le_trans hb h2, h3⟩
theorem zer_vals (N : Nat) : List.replicate (N + 1) (Value.int .i64 0) = (rI (zerR N)).map (Value.int .i64) := by
  unfold rI zerR
  simp
theorem zer_code (N : Nat) : codeR (N + 1) (zerR N) = 0 := by
  have : ∀ k, codeR (N + 1) (List.replicate k 0) = 0 := by
    intro k
    induction k with
    | zero => rfl
    | succ k ih => rw [List.replicate_succ', codeR_snoc, ih]; omega
  exact this (N + 1)
theorem seen_none (S M : Nat) {w : World} (h : w.ownsRow S 3 1 (.slice (some ⟨S, 0, none⟩) M M) M (madeCells #[Value.int .i64 0] M).toList) : SeenAt w S M (fun _ => false) := by
  rw [toList_madeCells_one] at h
  have e : List.replicate M (Value.int .i64 0) = seenV M (fun _ => false) := by
    unfold seenV
    simp [List.map_const']
  rw [e] at h
  exact h
/-- A row of the call's own while values are put behind it. -/
def OwnR (w : World) (base : Nat) (v : Value) (r : List Nat) : Prop := w.ownsRow base 3 1 v r.length ((rI r).map (Value.int .i64))
theorem OwnR.rowV {w : World} {base N : Nat} {v : Value} {r : List Nat} (h : OwnR w base v r) (hl : r.length = N + 1) : RowV w base N v r := by
  unfold OwnR at h
  rw [hl] at h
  rcases h.2 with ⟨_, h0⟩ | ⟨g, c, u, rfl, _⟩
  · omega
  · exact ⟨hl, g, c, rfl, h⟩
theorem OwnR.more {w1 : World} {base : Nat} {v' : Value} {r : List Nat} {d : Nat} (ho : w1.ownsRow base 3 1 v' (r.length + 1) ((rI r).map (Value.int .i64) ++ [.int .i64 (d : Int)])) : OwnR w1 base v' (r ++ [d]) := by
  unfold OwnR rI
  unfold rI at ho
  simpa using ho

/-- The list as it stands, and the marks. -/
def StR (N S : Nat) (w : World) (v : Value) (rs : List (List Nat)) (wr : World) : Prop :=
  GoodR N rs ∧ ListAt wr (S + 1) N v rs ∧ SeenAt wr S (pwN N (N + 1)) (fun c => decide (c ∈ codesR N rs)) ∧ w.grownBy wr none

theorem seen_start {w : World} {S M N : Nat} (h : SeenAt w S M (fun x => false || x == codeR (N + 1) (ownR N) || x == 0)) : SeenAt w S M (fun c => decide (c ∈ codesR N [ownR N, zerR N])) := by
  refine h.congr fun c _ => ?_
  unfold codesR
  simp only [List.map_cons, List.map_nil, zer_code, List.mem_cons, List.not_mem_nil, or_false, Bool.false_or]
  by_cases h1 : c = codeR (N + 1) (ownR N) <;> by_cases h2 : c = 0 <;> simp [h1, h2]

def M3 (N S : Nat) (w1 : World) (v i : Value) (wr : World) : Prop := ∃ (rs : List (List Nat)) (a : Nat), StR N S w1 v rs wr ∧ a ≤ rs.length ∧ i = .int .i64 a ∧ DoneR N rs a 0 0
def M4 (N S a : Nat) (w1 : World) (v i : Value) (wr : World) : Prop := ∃ (rs : List (List Nat)) (k : Nat), StR N S w1 v rs wr ∧ a < rs.length ∧ k ≤ a + 1 ∧ i = .int .i64 k ∧ DoneR N rs a k 0
def M5 (N S a k : Nat) (w1 : World) (v i : Value) (wr : World) : Prop := ∃ (rs : List (List Nat)) (s : Nat), StR N S w1 v rs wr ∧ a < rs.length ∧ s ≤ 2 ∧ i = .int .i64 s ∧ DoneR N rs a k s
def M6 (N : Nat) (r : List Nat) (w5 : World) (v i : Value) (wr : World) : Prop := ∃ m : Nat, m ≤ N + 1 ∧ i = .int .i64 m ∧ OwnR wr w5.heap.size v (r.take m) ∧ w5.grownBy wr none
theorem grownBy_upM {a b c : World} {B : Nat} (h : a.grownBy b none) (k : b.grownBy c (some B)) (hB : a.heap.size ≤ B) : a.grownBy c none :=
  ⟨k.os.trans h.os, k.tape.trans h.tape, k.output.trans h.output, Nat.le_trans h.size k.size, fun i hi _ => (k.block i (Nat.lt_of_lt_of_le hi h.size) (by simp; omega)).trans (h.block i hi (by simp))⟩
theorem getD_mem {rs : List (List Nat)} {i : Nat} (h : i < rs.length) : rs.getD i [] ∈ rs := by
  rw [List.getD_eq_getElem?_getD, List.getElem?_eq_getElem h, Option.getD_some]
  exact List.getElem_mem h
theorem take_nextN {r : List Nat} {k : Nat} (h : k < r.length) : r.take (k + 1) = r.take k ++ [r.getD k 0] := by
  rw [List.take_add_one, List.getElem?_eq_getElem h, List.getD_eq_getElem?_getD, List.getElem?_eq_getElem h]
  rfl
theorem say_at {N : Nat} {r : List Nat} (h : sayR N r = true) {m : Nat} (hm : m ≤ N) : r.getD m 0 ≤ N := ((sayR_of h).2 m hm).1
theorem seen_more {N S M : Nat} {w : World} {rs : List (List Nat)} {r : List Nat} (h : SeenAt w S M (fun x => decide (x ∈ codesR N rs) || x == codeR (N + 1) r)) : SeenAt w S M (fun c => decide (c ∈ codesR N (rs ++ [r]))) := by
  refine h.congr fun c _ => ?_
  unfold codesR
  rw [List.map_append]
  simp only [List.map_cons, List.map_nil, List.mem_append, List.mem_singleton]
  by_cases h1 : c ∈ List.map (codeR (N + 1)) rs <;> by_cases h2 : c = codeR (N + 1) r <;> simp [h1, h2]

def M7 (N S M : Nat) (w : World) (v i : Value) (wr : World) : Prop := ∃ c : Nat, c ≤ M ∧ i = .int .i64 c ∧ ListAt wr w.heap.size N v (outTo N c) ∧ SeenAt wr S M (fun c => sayR N (rowC N c)) ∧ w.grownBy wr none
def MnRel (N C G : Nat) (w : World) (num pl : Value) (wr : World) : Prop :=
  ∃ (m : Nat) (vs : List Value), ((∃ p : Nat, p + m = N ∧ pl = .int .i64 p) ∨ (m = N + 1 ∧ pl = .int .i64 (-1))) ∧ num = .int .i64 ((C / (N + 1) ^ m : Nat) : Int) ∧
    wr.ownsRow w.heap.size 3 1 (.slice (some ⟨G, 0, none⟩) (N + 1) (N + 1)) (N + 1) vs ∧ (∀ j, j ≤ N → N < j + m → vs[j]? = some (.int .i64 (((rowC N C).getD j 0 : Nat) : Int))) ∧ w.grownBy wr none


set_option maxRecDepth 100000 in
set_option maxHeartbeats 8000000 in
theorem srows_yes (N : Nat) (hN : 1 ≤ N ∧ N ≤ 4) (w : World) :
    Calls Tryd.prog 7 #[.int .i64 N] w (RowsMPost N (outTo N (pwN N (N + 1))) w) := by
  obtain ⟨i0, hi, hz0, hz1, hz2⟩ := info_parts infoInt
  obtain ⟨iR, hiR, hy0, hy1, hy2⟩ := info_parts infoRows
  have ci := fun w => in_any N 1 4 w
  rw [inB_t (n := (N : Int)) (by omega)] at ci
  go_enter Tryd.func7, Tryd.ntmps7
  go_wp2_with (go_at_call 21; refine (ci _).mono ?_; rintro e w' ⟨rfl, rfl⟩)
  clear ci
  go_loopw [4, 5] (fun s i wr => ∃ k : Nat, k ≤ N + 1 ∧ i = .int .i64 k ∧ s = .int .i64 (pwN N k : Int) ∧ (w.alloc (.cells #[] 29)).grownBy wr none) (fun _ i _ => N + 1 - (RowKit.intOf i).toNat)
  case atStart => exact ⟨0, by omega, rfl, rfl, grownBy_refl _ _⟩
  case round =>
    obtain ⟨k, hk, rfl, rfl, hg1⟩ := hrel
    have b1 := pwN_small hN.2 (k := k) (by omega)
    have p1 := pwN_pos N k
    by_cases hlt : k ≤ N
    · have b2 := pwN_small hN.2 (k := k + 1) (by omega)
      have hnx := Lib.hid (pwN_succ N k)
      have hmul : ((pwN N k : Nat) : Int) * ((N : Int) + 1) = ((pwN N (k + 1) : Nat) : Int) := by rw [pwN_succ]; simp
      generalize hC : pwN N (k + 1) = C' at *
      have HC := Lib.hid hC
      clear hC
      generalize pwN N k = C at *
      go_wp2_with fail
      go_roundw
      case rel => exact ⟨k + 1, by omega, by go_num, by rw [HC.out], hg1⟩
      case measure => simp [RowKit.intOf]; omega
    · obtain rfl : k = N + 1 := by omega
      obtain ⟨M, hM⟩ : ∃ M, M = pwN N (N + 1) := ⟨_, rfl⟩
      rw [← hM] at b1 p1 ⊢
      have HM := Lib.hid hM
      clear hM
      go_wp2_with (at_make; refine wpList_make_full _ rfl _ _ 29 rfl wr.heap.size 3 i0 (.int .i64 0) 1 Tryd.underlying29 hi hz0 hz1 .i64 .i64 _ _ M rfl rfl rfl rfl ?b2 ?b3 (Nat.le_refl _) ?_)
      case b2 => rw [hz2]; omega
      case b3 => unfold maxLen; omega
      intro w0 hown0 hgrow0
      have hsn := Lib.hid (seen_none wr.heap.size M hown0)
      clear hown0
      have hS : wr.heap.size < w0.heap.size := by
        have := World.ownsRow.lt hsn.out wr.heap.size rfl
        omega
      generalize hSS : wr.heap.size = S at *
      have HS := Lib.hid hSS
      clear hSS
      have hwS : w.heap.size + 1 ≤ S := by have := hg1.size; have := HS.out; simp at *; omega
      have hG0 := Lib.hid (grownBy_trans hg1 hgrow0)
      clear hgrow0
      go_wp2_with fail
      go_loopw [8, 9] (fun v i wq => ∃ k : Nat, k ≤ N + 1 ∧ i = .int .i64 k ∧ OwnR wq (w0.heap.size + 1) v (List.range k) ∧ (w0.alloc (.cells #[] 29)).grownBy wq none) (fun _ i _ => N + 1 - (RowKit.intOf i).toNat)
      case atStart => exact ⟨0, by omega, rfl, by simpa [OwnR, rI] using World.ownsRow_lit (e := 3) (size := 1) (base := w0.heap.size + 1) (w0.alloc (.cells #[] 29)) #[] 0 (by simp) (by unfold maxLen; omega) rfl, World.grownBy_alloc _ _ none⟩
      case round =>
        obtain ⟨k, hk, rfl, hown, hgq⟩ := hrel
        by_cases hlt : k ≤ N
        · have hown1 := hown
          unfold OwnR at hown1
          rw [List.length_range] at hown1
          clear hown
          go_wp2_with (at_builtin; refine wpList_append_own _ rfl _ _ 29 rfl (w0.heap.size + 1) 3 i0 (.int .i64 0) 1 8 Tryd.underlying29 hi hz0 hz1 hz2 rfl (by decide) _ _ _ rfl (World.ownsRow.alloc hown1 _) ⟨wr.heap.size, 0, none⟩ 1 1 [.int .i64 (k : Int)] rfl rfl ?c1 ?c2 ?c3 ?c4 ?c5 ?_)
          case c1 =>
            intro j u hj
            match j, hj with
            | 0, hj => simp at hj; subst hj; simp [Addr.add]
          case c2 => intro u hu; simp at hu; subst hu; rfl
          case c3 => unfold maxLen; omega
          case c4 => omega
          case c5 => have := hgq.size; simp at *; omega
          intro v' w3 hown' hgrow _
          have hA := World.ownsRow.alloc hown1 (.cells #[.int .i64 (k : Int)] 3)
          have hG := Lib.hid (grownBy_row (grownBy_trans hgq (World.grownBy_alloc wr (.cells #[.int .i64 (k : Int)] 3) none)) hA (by simp) hgrow)
          have Ho : Hid (OwnR w3 (w0.heap.size + 1) v' (List.range (k + 1))) := by
            unfold Hid
            rw [List.range_succ]
            exact OwnR.more (by rw [List.length_range]; exact hown')
          clear hown1 hown' hgrow hA hgq
          go_wp2
          go_roundw
          case rel => exact ⟨k + 1, by omega, by go_num, Ho.out, hG.out⟩
          case measure => simp [RowKit.intOf]; omega
        · obtain rfl : k = N + 1 := by omega
          have ne : 3 ≠ 29 := by decide
          obtain ⟨hlo, go, co, rfl, hro⟩ := OwnR.rowV (N := N) (r := ownR N) hown (by simp [ownR])
          have hLs : wr.ownsRow (S + 1) 29 1 (.slice (some ⟨w0.heap.size, 0, none⟩) 0 0) 0 [] := own_keptM (World.ownsRow_lit (e := 29) (size := 1) (base := S + 1) w0 #[] 0 (by omega) (by unfold maxLen; omega) rfl) hgq
          have hSn := hsn.out.kept (grownBy_trans (World.grownBy_alloc w0 (.cells #[] 29) none) hgq)
          have hGq := grownBy_trans hG0.out (grownBy_trans (World.grownBy_alloc w0 (.cells #[] 29) none) hgq)
          have hro2 := own_mono (b2 := S + 1) hro (by omega)
          have hw0 : w0.heap.size + 1 ≤ wr.heap.size := by have := hgq.size; simp at this; omega
          clear hown hro hgq hG0 hsn
          go_wp2_with (at_make; refine wpList_make_full _ rfl _ _ 29 rfl wr.heap.size 3 i0 (.int .i64 0) 1 Tryd.underlying29 hi hz0 hz1 .i64 .i64 _ _ (N + 1) rfl rfl rfl rfl ?b2 ?b3 (Nat.le_refl _) ?_)
          case b2 => rw [hz2]; omega
          case b3 => unfold maxLen; omega
          intro w3 hown3 hgrow3
          rw [toList_madeCells_one, zer_vals] at hown3
          have hro3 := own_keptM hro2 hgrow3
          have hzr3 := own_mono (b2 := S + 1) hown3 (by omega)
          have hSn3 := hSn.kept hgrow3
          have hGq3 := grownBy_trans hGq hgrow3
          have hL3 := own_keptM hLs hgrow3
          have hs3 := hgrow3.size
          clear hro2 hown3 hSn hGq hLs hgrow3
          go_wp2_with (at_builtin; refine wpList_append_own _ rfl _ _ 24 rfl (S + 1) 29 iR (.slice none 0 0) 1 24 Tryd.underlying24 hiR hy0 hy1 hy2 rfl (by decide) _ _ _ rfl (World.ownsRow.alloc hL3 _) ⟨w3.heap.size, 0, none⟩ 2 2 [.slice (some ⟨go, 0, none⟩) (N + 1) co, .slice (some ⟨wr.heap.size, 0, none⟩) (N + 1) (N + 1)] rfl rfl ?c1 ?c2 ?c3 ?c4 ?c5 ?_)
          case c1 =>
            intro j u hj
            match j, hj with
            | 0, hj => simp at hj; subst hj; simp [Addr.add]
            | 1, hj => simp at hj; subst hj; simp [Addr.add]
          case c2 =>
            intro u hu
            simp at hu
            rcases hu with rfl | rfl <;> rfl
          case c3 => unfold maxLen; omega
          case c4 => omega
          case c5 => simp; omega
          intro v7 w4 hown4 hgrow4 _
          have hLa := World.ownsRow.alloc hL3 (.cells #[.slice (some ⟨go, 0, none⟩) (N + 1) co, .slice (some ⟨wr.heap.size, 0, none⟩) (N + 1) (N + 1)] 29)
          have gA := World.grownBy_alloc w3 (.cells #[.slice (some ⟨go, 0, none⟩) (N + 1) co, .slice (some ⟨wr.heap.size, 0, none⟩) (N + 1) (N + 1)] 29) none
          have hrow4 : RowV w4 (S + 1) N (.slice (some ⟨go, 0, none⟩) (N + 1) co) (ownR N) := RowV.beside (⟨hlo, go, co, rfl, own_keptM hro3 gA⟩ : RowV _ (S + 1) N _ (ownR N)) hLa ne hgrow4
          have hzr4 : RowV w4 (S + 1) N (.slice (some ⟨wr.heap.size, 0, none⟩) (N + 1) (N + 1)) (zerR N) := RowV.beside (⟨by simp [zerR], _, _, rfl, own_keptM hzr3 gA⟩ : RowV _ (S + 1) N _ (zerR N)) hLa ne hgrow4
          have hL4 : Hid (ListAt w4 (S + 1) N v7 [ownR N, zerR N]) := ⟨_, hown4, fun i hi => by
            match i, hi with
            | 0, _ => exact ⟨_, rfl, hrow4⟩
            | 1, _ => exact ⟨_, rfl, hzr4⟩⟩
          have hS4 := Lib.hid ((hSn3.kept gA).beside hLa ne hgrow4)
          have hG4 := Lib.hid (grownBy_row (grownBy_trans hGq3 gA) hLa (by simp; omega) hgrow4)
          obtain ⟨go', co', he, hi4⟩ := hrow4.ints (by omega)
          cases he
          have cc := scode_any N hN (some ⟨go, 0, none⟩) co (ownR N) (say_well (say_own N)) w4 hi4
          have hcl := code_lt (say_well (say_own N))
          have HC := Lib.hid hcl
          clear hrow4 hzr4 hLa gA hown4 hgrow4 hSn3 hGq3 hL3 hro3 hzr3 hi4 hcl
          have hcM : codeR (N + 1) (ownR N) < M := by have := HC.out; have := HM.out; unfold pwN at this; omega
          have hS4' := hS4.out
          have hce4 := hS4'.cell hcM
          have hfr4 := (hS4'.put hcM).2.2
          have hS5 := Lib.hid (hS4'.put hcM).1
          have hg5 := Lib.hid (hS4'.put hcM).2.1
          simp only [Bool.false_eq_true, if_false] at hce4
          have hfr0 := (hS4'.put (c := 0) (by omega)).2.2
          obtain ⟨u5, hce5⟩ : ∃ u, (w4.setCell ⟨S, codeR (N + 1) (ownR N), none⟩ (.int .i64 1)).cell? ⟨S, 0, none⟩ = some u := ⟨_, hS5.out.cell (by omega)⟩
          have hS6 := Lib.hid (hS5.out.put (c := 0) (by omega)).1
          have hg6 := Lib.hid (grownBy_trans hg5.out (hS5.out.put (c := 0) (by omega)).2.1)
          have hL6 := Lib.hid (hL4.out.below (Nat.lt_succ_self S) hg6.out)
          have hG6 : Hid ((w.alloc (.cells #[] 29)).grownBy ((w4.setCell ⟨S, codeR (N + 1) (ownR N), none⟩ (.int .i64 1)).setCell ⟨S, 0, none⟩ (.int .i64 1)) none) :=
            ⟨hg6.out.os.trans hG4.out.os, hg6.out.tape.trans hG4.out.tape, hg6.out.output.trans hG4.out.output, Nat.le_trans hG4.out.size hg6.out.size, fun i hi _ => (hg6.out.block i (Nat.lt_of_lt_of_le hi hG4.out.size) (by simp at hi ⊢; omega)).trans (hG4.out.block i hi (by simp))⟩
          have hSt : Hid (StR N S (w.alloc (.cells #[] 29)) v7 [ownR N, zerR N] ((w4.setCell ⟨S, codeR (N + 1) (ownR N), none⟩ (.int .i64 1)).setCell ⟨S, 0, none⟩ (.int .i64 1))) :=
            ⟨good_start hN.1, hL6.out, by rw [← HM.out]; exact seen_start hS6.out, hG6.out⟩
          clear hS6 hL6 hG6 hg6 hS5 hg5 hS4' HC hL4 hS4 hG4
          generalize codeR (N + 1) (ownR N) = Co at *
          go_wp2_with fail
          refine cc.mono ?_
          rintro e w5 ⟨rfl, rfl⟩
          clear cc
          go_wp2_with fail
          generalize (w4.setCell ⟨S, Co, none⟩ (.int .i64 1)).setCell ⟨S, 0, none⟩ (.int .i64 1) = w6 at *
          clear hce4 hfr4 hfr0 hce5 hcM hs3 hw0 hlo
          have hS1 : (w.alloc (.cells #[] 29)).heap.size ≤ S := by simp; omega
          have hOut := Lib.hid (ListAt.empty w N)
          have hW1 := Lib.hid (World.grownBy_alloc w (.cells #[] 29) none)
          generalize w.alloc (.cells #[] 29) = w1 at *
          have hMl : Hid (∀ rs, GoodR N rs → rs.length ≤ M) := fun rs h => by rw [HM.out]; exact h.len
          go_loopw [7, 10] (fun v i wr => M3 N S w1 v i wr) (fun _ i _ => M - (RowKit.intOf i).toNat)
          case atStart => exact ⟨_, 0, hSt.out, by simp, rfl, done_0 _ _⟩
          case round =>
            obtain ⟨rs3, a, hst3, ha, rfl, hd3⟩ := hrel
            obtain ⟨av, cv, rfl⟩ := hst3.2.1.shape
            have hl3 := hMl.out rs3 hst3.1
            have Hst3 := Lib.hid hst3
            have Hd3 := Lib.hid hd3
            clear hst3 hd3
            by_cases hlt : a < rs3.length
            · go_wp2_with fail
              go_loopw [7, 11] (fun v i wr => M4 N S a w1 v i wr) (fun _ i _ => a + 1 - (RowKit.intOf i).toNat)
              case atStart => exact ⟨rs3, 0, Hst3.out, hlt, by omega, rfl, Hd3.out⟩
              case round =>
                obtain ⟨rs4, k, hst4, ha4, hk, rfl, hd4⟩ := hrel
                have Hst4 := Lib.hid hst4
                have Hd4 := Lib.hid hd4
                clear hst4 hd4
                by_cases hlt4 : k ≤ a
                · go_wp2_with fail
                  go_loopw [7, 12] (fun v i wr => M5 N S a k w1 v i wr) (fun _ i _ => 2 - (RowKit.intOf i).toNat)
                  case atStart => exact ⟨rs4, 0, Hst4.out, ha4, by omega, rfl, Hd4.out⟩
                  case round =>
                    obtain ⟨rs5, s, hst5, ha5, hs, rfl, hd5⟩ := hrel
                    have Hst5 := Lib.hid hst5
                    have Hd5 := Lib.hid hd5
                    clear hst5 hd5
                    by_cases hlt5 : s < 2
                    · obtain ⟨g, c, gi, ci, rfl, ca, ia⟩ := Hst5.out.2.1.at (by omega) ha5
                      obtain ⟨g', c', gj, cj, he, ck, ik⟩ := Hst5.out.2.1.at (by omega) (show k < rs5.length by omega)
                      cases he
                      have sx := Hst5.out.1.say _ (getD_mem ha5)
                      have sy := Hst5.out.1.say _ (getD_mem (show k < rs5.length by omega))
                      have lx := (say_well sx).1
                      have ly := (say_well sy).1
                      have hl5 := hMl.out rs5 Hst5.out.1
                      have a0' : (0 : Int) ≤ (a : Int) := by omega
                      have a1' : (a : Int) < (rs5.length : Int) := by omega
                      have k0' : (0 : Int) ≤ (k : Int) := by omega
                      have k1' : (k : Int) < (rs5.length : Int) := by omega
                      have Ca := Lib.hid ca
                      have Ck := Lib.hid ck
                      have Ia := Lib.hid ia
                      have Ik := Lib.hid ik
                      clear ca ck ia ik
                      have hsr : sayR N (newR N (rs5.getD a []) (rs5.getD k []) s) = true := new_say sx sy s
                      have hrl := (say_well hsr).1
                      have hrm0 : Hid (s = 0 → ∀ m, m ≤ N → (newR N (rs5.getD a []) (rs5.getD k []) s).getD m 0 = folN N ((rs5.getD a []).getD m 0) ((rs5.getD k []).getD m 0)) := fun e m hm => by rw [e]; exact folR_at (say_well sx).1 (say_well sy).1 hm
                      have hrm1 : Hid (s = 1 → ∀ m, m ≤ N → (newR N (rs5.getD a []) (rs5.getD k []) s).getD m 0 = folN N ((rs5.getD k []).getD m 0) ((rs5.getD a []).getD m 0)) := fun e m hm => by rw [e]; exact folR_at (say_well sy).1 (say_well sx).1 hm
                      have Hsr := Lib.hid hsr
                      clear hsr
                      generalize hnew0 : newR N (rs5.getD a []) (rs5.getD k []) s = r at *
                      have hnew := Lib.hid hnew0
                      clear hnew0
                      have Hrl := Lib.hid hrl
                      clear hrl
                      have o1 := World.ownsRow_lit (e := 3) (size := 1) wr #[] 0 (Nat.le_refl _) (by unfold maxLen; omega) rfl
                      have O1 := Lib.hid o1
                      clear o1
                      go_wp2_with fail
                      go_loopw [13, 14] (fun v i wq => M6 N r wr v i wq) (fun _ i _ => N + 1 - (RowKit.intOf i).toNat)
                      case atStart => exact ⟨0, by omega, rfl, by simpa [OwnR, rI] using O1.out, World.grownBy_alloc wr _ none⟩
                      case round =>
                        obtain ⟨m, hm, rfl, hown, hgq⟩ := hrel
                        by_cases hltm : m ≤ N
                        · obtain hs0 | hs1 : s = 0 ∨ s = 1 := by omega
                          · have hrm := hrm0.out hs0
                            have hse : ((s : Int) == 1) = false := by rw [hs0]; rfl
                            clear hs0
                            rcases (Ia.out.grown hgq).2 with h0 | ⟨bx, ox, hbe, hbx, hcx⟩
                            · exact absurd (by rw [h0]; rfl : (rI (rs5.getD a [])).length = 0) (by rw [rI_len]; omega)
                            cases hbe
                            rcases (Ik.out.grown hgq).2 with h0 | ⟨by', oy, hbe, hby, hcy⟩
                            · exact absurd (by rw [h0]; rfl : (rI (rs5.getD k [])).length = 0) (by rw [rI_len]; omega)
                            cases hbe
                            have n2 := hcx m (by rw [rI_len]; omega)
                            have n4 := hcy m (by rw [rI_len]; omega)
                            rw [rI_at, Nat.zero_add] at n2 n4
                            have n1 := hgq.cell Ca.out (by simp)
                            have n3 := hgq.cell Ck.out (by simp)
                            have m0 : (0 : Int) ≤ (m : Int) := by omega
                            have m1 : (m : Int) < (N : Int) + 1 := by omega
                            have pN := say_at sx hltm
                            have qN := say_at sy hltm
                            have htk : Hid (r.take (m + 1) = r.take m ++ [folN N ((rs5.getD a []).getD m 0) ((rs5.getD k []).getD m 0)]) := by
                              unfold Hid
                              rw [take_nextN (by have := Hrl.out; omega), hrm m hltm]
                            have hlt' : (r.take m).length = m := by rw [List.length_take]; have := Hrl.out; omega
                            have hown1 := hown
                            unfold OwnR at hown1
                            rw [hlt'] at hown1
                            have hmin := min_folM (N := N) (a := (rs5.getD a []).getD m 0) (b := (rs5.getD k []).getD m 0) (by first | exact pN | exact qN)
                            have hf6 := folN_le N ((rs5.getD a []).getD m 0) ((rs5.getD k []).getD m 0)
                            have Hgq := Lib.hid hgq
                            have Hlt := Lib.hid hlt'
                            clear hrm hown hcx hcy hbx hby hgq hlt'
                            generalize (rs5.getD a []).getD m 0 = p at *
                            generalize (rs5.getD k []).getD m 0 = q at *
                            generalize folN N p q = d at *
                            have hsz6 := Hgq.out.size
                            go_wp2_with (at_builtin; refine wpList_append_own _ rfl _ _ 29 rfl _ 3 i0 (.int .i64 0) 1 8 Tryd.underlying29 hi hz0 hz1 hz2 rfl (by decide) _ m ((rI (r.take m)).map (Value.int .i64)) rfl (World.ownsRow.alloc hown1 _) ⟨_, 0, none⟩ 1 1 [.int .i64 (d : Int)] rfl rfl ?a1 ?a2 ?a3 ?a4 ?a5 ?_)
                            case a1 =>
                              intro j u hj
                              match j, hj with
                              | 0, hj => simp at hj; subst hj; simp [Addr.add]
                            case a2 => first | rfl | (intro u hu; simp at hu; subst hu; rfl)
                            case a3 => unfold maxLen; omega
                            case a4 => omega
                            case a5 => first | omega | (simp; omega)
                            intro v' w7 ho7 gr7 _
                            have hA := World.ownsRow.alloc hown1 (.cells #[.int .i64 (d : Int)] 3)
                            have HG7 := Lib.hid (grownBy_row (grownBy_trans Hgq.out (World.grownBy_alloc _ (.cells #[.int .i64 (d : Int)] 3) none)) hA (Nat.le_refl _) gr7)
                            have Ho7 := Lib.hid (OwnR.more (r := r.take m) (d := d) (by rw [Hlt.out]; exact ho7))
                            rw [← htk.out] at Ho7
                            clear hown1 ho7 gr7 hA
                            go_wp2
                            go_roundw
                            case rel => exact ⟨m + 1, by omega, by go_num, Ho7.out, HG7.out⟩
                            case measure => simp [RowKit.intOf]; omega
                          · have hrm := hrm1.out hs1
                            have hse : ((s : Int) == 1) = true := by rw [hs1]; rfl
                            clear hs1
                            rcases (Ia.out.grown hgq).2 with h0 | ⟨bx, ox, hbe, hbx, hcx⟩
                            · exact absurd (by rw [h0]; rfl : (rI (rs5.getD a [])).length = 0) (by rw [rI_len]; omega)
                            cases hbe
                            rcases (Ik.out.grown hgq).2 with h0 | ⟨by', oy, hbe, hby, hcy⟩
                            · exact absurd (by rw [h0]; rfl : (rI (rs5.getD k [])).length = 0) (by rw [rI_len]; omega)
                            cases hbe
                            have n2 := hcx m (by rw [rI_len]; omega)
                            have n4 := hcy m (by rw [rI_len]; omega)
                            rw [rI_at, Nat.zero_add] at n2 n4
                            have n1 := hgq.cell Ca.out (by simp)
                            have n3 := hgq.cell Ck.out (by simp)
                            have m0 : (0 : Int) ≤ (m : Int) := by omega
                            have m1 : (m : Int) < (N : Int) + 1 := by omega
                            have pN := say_at sx hltm
                            have qN := say_at sy hltm
                            have htk : Hid (r.take (m + 1) = r.take m ++ [folN N ((rs5.getD k []).getD m 0) ((rs5.getD a []).getD m 0)]) := by
                              unfold Hid
                              rw [take_nextN (by have := Hrl.out; omega), hrm m hltm]
                            have hlt' : (r.take m).length = m := by rw [List.length_take]; have := Hrl.out; omega
                            have hown1 := hown
                            unfold OwnR at hown1
                            rw [hlt'] at hown1
                            have hmin := min_folM (N := N) (a := (rs5.getD k []).getD m 0) (b := (rs5.getD a []).getD m 0) (by first | exact pN | exact qN)
                            have hf6 := folN_le N ((rs5.getD k []).getD m 0) ((rs5.getD a []).getD m 0)
                            have Hgq := Lib.hid hgq
                            have Hlt := Lib.hid hlt'
                            clear hrm hown hcx hcy hbx hby hgq hlt'
                            generalize (rs5.getD a []).getD m 0 = p at *
                            generalize (rs5.getD k []).getD m 0 = q at *
                            generalize folN N q p = d at *
                            have hsz6 := Hgq.out.size
                            go_wp2_with (at_builtin; refine wpList_append_own _ rfl _ _ 29 rfl _ 3 i0 (.int .i64 0) 1 8 Tryd.underlying29 hi hz0 hz1 hz2 rfl (by decide) _ m ((rI (r.take m)).map (Value.int .i64)) rfl (World.ownsRow.alloc hown1 _) ⟨_, 0, none⟩ 1 1 [.int .i64 (d : Int)] rfl rfl ?b1 ?b2 ?b3 ?b4 ?b5 ?_)
                            case b1 =>
                              intro j u hj
                              match j, hj with
                              | 0, hj => simp at hj; subst hj; simp [Addr.add]
                            case b2 => first | rfl | (intro u hu; simp at hu; subst hu; rfl)
                            case b3 => unfold maxLen; omega
                            case b4 => omega
                            case b5 => first | omega | (simp; omega)
                            intro v' w7 ho7 gr7 _
                            have hA := World.ownsRow.alloc hown1 (.cells #[.int .i64 (d : Int)] 3)
                            have HG7 := Lib.hid (grownBy_row (grownBy_trans Hgq.out (World.grownBy_alloc _ (.cells #[.int .i64 (d : Int)] 3) none)) hA (Nat.le_refl _) gr7)
                            have Ho7 := Lib.hid (OwnR.more (r := r.take m) (d := d) (by rw [Hlt.out]; exact ho7))
                            rw [← htk.out] at Ho7
                            clear hown1 ho7 gr7 hA
                            go_wp2
                            go_roundw
                            case rel => exact ⟨m + 1, by omega, by go_num, Ho7.out, HG7.out⟩
                            case measure => simp [RowKit.intOf]; omega
                        · obtain rfl : m = N + 1 := by omega
                          have htk : r.take (N + 1) = r := List.take_of_length_le (by have := Hrl.out; omega)
                          rw [htk] at hown
                          have hrv := OwnR.rowV (N := N) hown Hrl.out
                          obtain ⟨gr, cr, rfl, ir⟩ := hrv.ints (by omega)
                          have cc := scode_any N hN (some ⟨gr, 0, none⟩) cr r (say_well Hsr.out) _ ir
                          have hcl := code_lt (say_well Hsr.out)
                          have hcM : codeR (N + 1) r < M := by have := HM.out; unfold pwN at this; omega
                          have hsS := Hst5.out.2.2.1.kept hgq
                          rw [← HM.out] at hsS
                          have hce := hsS.cell hcM
                          have hLl := Hst5.out.2.1.kept hgq
                          have hgg := grownBy_trans Hst5.out.2.2.2 hgq
                          have q0' : (0 : Int) ≤ (codeR (N + 1) r : Int) := by omega
                          have q1' : (codeR (N + 1) r : Int) < (M : Int) := by omega
                          have Hrv := Lib.hid hrv
                          have HLl := Lib.hid hLl
                          have Hgg := Lib.hid hgg
                          have HsS := Lib.hid hsS
                          have Hgq := Lib.hid hgq
                          have Hcl := Lib.hid hcl
                          clear hown hrv ir hLl hgg hsS hgq htk hcl
                          by_cases hm : codeR (N + 1) r ∈ codesR N rs5
                          · simp only [hm, decide_true, if_true] at hce
                            have hdn := Lib.hid (done_side Hd5.out (by rw [hnew.out]; exact hm))
                            have HSt := Lib.hid (show StR N S w1 _ rs5 _ from ⟨Hst5.out.1, HLl.out, by rw [← HM.out]; exact HsS.out, Hgg.out⟩)
                            clear hm
                            generalize codeR (N + 1) r = Co at *
                            go_wp2_with (go_at_call 22; refine cc.mono ?_; rintro e w' ⟨rfl, rfl⟩)
                            go_roundw
                            case rel => exact ⟨rs5, s + 1, HSt.out, ha5, by omega, by go_num, hdn.out⟩
                            case measure => simp [RowKit.intOf]; omega
                          · simp only [hm, decide_false, Bool.false_eq_true, if_false] at hce
                            have hput := HsS.out.put hcM
                            have hfr := hput.2.2
                            have HS2 := Lib.hid hput.1
                            have Hg2 := Lib.hid hput.2.1
                            obtain ⟨vals, l1, l2⟩ := HLl.out.below (Nat.lt_succ_self S) hput.2.1
                            have Hl2 := Lib.hid l2
                            have hszS := Hgg.out.size
                            have hsz6 := Hgq.out.size
                            have hszw := hput.2.1.size
                            have hS5 := (World.ownsRow.lt Hst5.out.2.2.1 S rfl).2
                            have hrv9 : RowV wr (S + 1) N (.slice (some ⟨gr, 0, none⟩) (N + 1) cr) r := by
                              obtain ⟨z1, g9, c9, z2, z3⟩ := Hrv.out
                              exact ⟨z1, g9, c9, z2, own_mono z3 (by omega)⟩
                            have hrb := Lib.hid (hrv9.below (Nat.lt_succ_self S) hput.2.1)
                            clear hrv9
                            have hmem : Hid (codeR (N + 1) r ∉ codesR N rs5) := hm
                            clear hput l2 hm
                            generalize hCo : codeR (N + 1) r = Co at *
                            have HCo := Lib.hid hCo
                            clear hCo
                            go_wp2_with (first
                              | (go_at_call 22; refine cc.mono ?_; rintro e w' ⟨rfl, rfl⟩)
                              | (at_builtin; refine wpList_append_own _ rfl _ _ 24 rfl (S + 1) 29 iR (.slice none 0 0) 1 24 Tryd.underlying24 hiR hy0 hy1 hy2 rfl (by decide) _ rs5.length vals rfl (World.ownsRow.alloc l1 _) ⟨_, 0, none⟩ 1 1 [.slice (some ⟨gr, 0, none⟩) (N + 1) cr] rfl rfl ?e6 ?e7 ?e8 ?e9 ?e10 ?_))
                            case e6 =>
                              intro j u hj
                              have h := cell_one_new (wr.setCell ⟨S, Co, none⟩ (.int .i64 1)) (.slice (some ⟨gr, 0, none⟩) (N + 1) cr) 29 j u hj
                              have e9 : (wr.setCell ⟨S, Co, none⟩ (.int .i64 1)).heap.size = wr.heap.size := by simp
                              rw [e9] at h
                              exact h
                            case e7 => intro u hu; simp at hu; subst hu; rfl
                            case e8 => unfold maxLen; omega
                            case e9 => omega
                            case e10 => first | omega | (simp; omega)
                            intro v' w8 ho8 gr8 _
                            have hA8 := World.ownsRow.alloc l1 (.cells #[.slice (some ⟨gr, 0, none⟩) (N + 1) cr] 29)
                            have gA8 := World.grownBy_alloc (wr.setCell ⟨S, Co, none⟩ (.int .i64 1)) (.cells #[.slice (some ⟨gr, 0, none⟩) (N + 1) cr] 29) none
                            have HL8 := Lib.hid (ListAt.more hA8 (fun i hi => by obtain ⟨u, z1, z2⟩ := Hl2.out i hi; exact ⟨u, z1, z2.kept gA8⟩) (hrb.out.kept gA8) ho8 gr8)
                            have HS8 : Hid (SeenAt w8 S M (fun c => decide (c ∈ codesR N (rs5 ++ [r])))) := seen_more (by rw [HCo.out]; exact (HS2.out.kept gA8).beside hA8 ne gr8)
                            have HG8 := Lib.hid (grownBy_row (grownBy_trans (grownBy_upM Hgg.out Hg2.out hS1) gA8) hA8 (by omega) gr8)
                            have HD8 : Hid (DoneR N (rs5 ++ [r]) a k (s + 1)) := done_side (done_more ha5 Hd5.out) (by rw [getD_old ha5, getD_old (by omega), hnew.out]; unfold codesR; rw [List.map_append]; exact List.mem_append_right _ (by simp))
                            have HGd := Lib.hid (Hst5.out.1.more Hsr.out (by rw [HCo.out]; exact hmem.out))
                            clear hA8 gA8 ho8 gr8 l1 cc hce hfr
                            go_wp2
                            go_roundw
                            case rel => exact ⟨rs5 ++ [r], s + 1, ⟨HGd.out, HL8.out, by rw [← HM.out]; exact HS8.out, HG8.out⟩, by simp; omega, by omega, by go_num, HD8.out⟩
                            case measure => simp [RowKit.intOf]; omega
                    · obtain rfl : s = 2 := by omega
                      go_wp2_with fail
                      go_roundw
                      case rel => exact ⟨rs5, k + 1, Hst5.out, ha5, by omega, by go_num, done_k Hd5.out⟩
                      case measure => simp [RowKit.intOf]; omega
                · obtain rfl : k = a + 1 := by omega
                  go_wp2_with fail
                  go_roundw
                  case rel => exact ⟨rs4, a + 1, Hst4.out, by omega, by go_num, done_at Hd4.out⟩
                  case measure => simp [RowKit.intOf]; have := hMl.out rs4 Hst4.out.1; omega
            · obtain rfl : a = rs3.length := by omega
              have HS7 : Hid (SeenAt wr S M (fun c => sayR N (rowC N c))) := by
                have h := Hst3.out.2.2.1
                rw [← HM.out] at h
                refine h.congr fun c hc => ?_
                have hc' : c < (N + 1) ^ (N + 1) := by have := HM.out; unfold pwN at this; omega
                have h1 := done_codes hN Hst3.out.1 Hd3.out hc'
                cases e : sayR N (rowC N c)
                · exact decide_eq_false fun q => by have := h1.1 q; unfold rowC at e; rw [e] at this; cases this
                · exact decide_eq_true (h1.2 e)
              have HO7 := Lib.hid (hOut.out.kept Hst3.out.2.2.2)
              have HG7 := Lib.hid (grownBy_trans hW1.out Hst3.out.2.2.2)
              clear Hd3
              go_wp2_with fail
              go_loopw [3, 17] (fun v i wq => M7 N S M w v i wq) (fun _ i _ => M - (RowKit.intOf i).toNat)
              case atStart => exact ⟨0, by omega, rfl, HO7.out, HS7.out, HG7.out⟩
              case round =>
                obtain ⟨c, hc, rfl, hL, hSe, hgr⟩ := hrel
                have HL := Lib.hid hL
                have HSe := Lib.hid hSe
                have Hgr := Lib.hid hgr
                clear hL hSe hgr
                by_cases hlc : c < M
                · have hce := HSe.out.cell hlc
                  have c0' : (0 : Int) ≤ (c : Int) := by omega
                  have c1' : (c : Int) < (M : Int) := by omega
                  cases hsay : sayR N (rowC N c)
                  · simp only [hsay, Bool.false_eq_true, if_false] at hce
                    have hms := Lib.hid (outTo_miss (n := N) (c := c) hsay)
                    clear hsay
                    go_wp2_with fail
                    go_roundw
                    case rel => exact ⟨c + 1, by omega, by go_num, by rw [hms.out]; exact HL.out, HSe.out, Hgr.out⟩
                    case measure => simp [RowKit.intOf]; omega
                  · simp only [hsay, if_true] at hce
                    have hht := Lib.hid (outTo_hit (n := N) (c := c) hsay)
                    clear hsay
                    have hszg := Hgr.out.size
                    go_wp2_with (at_make; refine wpList_make_full _ rfl _ _ 29 rfl _ 3 i0 (.int .i64 0) 1 Tryd.underlying29 hi hz0 hz1 .i64 .i64 _ _ (N + 1) rfl rfl rfl rfl ?f2 ?f3 (Nat.le_refl _) ?_)
                    case f2 => rw [hz2]; omega
                    case f3 => unfold maxLen; omega
                    intro w10 hown10 hgrow10
                    have Hown10 := Lib.hid hown10
                    have Hgrow10 := Lib.hid hgrow10
                    clear hown10 hgrow10 hce
                    have hc5 : c ≤ 100000 := by omega
                    obtain ⟨G, hG⟩ : ∃ G, wr.heap.size = G := ⟨_, rfl⟩
                    rw [hG]
                    rw [hG] at Hown10
                    have HG := Lib.hid hG
                    clear hG
                    go_wp2_with fail
                    go_loopw [19, 20] (fun num pl wq => MnRel N c G wr num pl wq) (fun _ pl _ => (RowKit.intOf pl + 1).toNat)
                    case atStart => exact ⟨0, _, .inl ⟨N, rfl, rfl⟩, by simp, by rw [HG.out]; exact Hown10.out, fun j h1 h2 => by omega, Hgrow10.out⟩
                    case round =>
                      obtain ⟨m, vs, hpl, rfl, hown, hvs, hgq⟩ := hrel
                      rcases hpl with ⟨p, hp, rfl⟩ | ⟨rfl, rfl⟩
                      · have hD : c / (N + 1) ^ m ≤ 100000 := Nat.le_trans (Nat.div_le_self _ _) hc5
                        have hnx : Hid (c / (N + 1) ^ m / (N + 1) = c / (N + 1) ^ (m + 1)) := by unfold Hid; rw [Nat.div_div_eq_div_mul, Nat.pow_succ]
                        have hdg : Hid (c / (N + 1) ^ m % (N + 1) = (rowC N c).getD p 0) := by
                          unfold Hid rowC
                          rw [digs_at (N + 1) c p (by omega), show N + 1 - 1 - p = m by omega]
                        have q1 : ((c / (N + 1) ^ m : Nat) : Int) % ((N : Int) + 1) = ((c / (N + 1) ^ m % (N + 1) : Nat) : Int) := by simp
                        have q2 : ((c / (N + 1) ^ m : Nat) : Int) / ((N : Int) + 1) = ((c / (N + 1) ^ m / (N + 1) : Nat) : Int) := by simp
                        have q3 : ¬ ((N : Int) + 1 = 0) := by omega
                        have hfr := World.ownsRow.frozenAt hown p
                        have hce := World.ownsRow.cellAt hown p (by omega)
                        have hxl := hown.1
                        rw [List.getElem?_eq_getElem (by omega)] at hce
                        obtain ⟨u, hce⟩ : ∃ u, wr.cell? ⟨G, p, none⟩ = some u := ⟨_, hce⟩
                        have p0' : (0 : Int) ≤ (p : Int) := by omega
                        have p1' : (p : Int) < (N : Int) + 1 := by omega
                        have hD' : c / (N + 1) ^ m / (N + 1) ≤ 100000 := Nat.le_trans (Nat.div_le_self _ _) hD
                        generalize c / (N + 1) ^ m / (N + 1) = D' at *
                        generalize hdd : c / (N + 1) ^ m % (N + 1) = d at *
                        have Hdd := Lib.hid hdd
                        clear hdd
                        have hst := Lib.hid (World.ownsRow.stored hown p (.int .i64 (d : Int)))
                        have hg2 := Lib.hid (grownBy_row hgq hown (Nat.le_refl _) hst.out.2)
                        have hvs2 : Hid (∀ j, j ≤ N → N < j + (m + 1) → (vs.set p (.int .i64 (d : Int)))[j]? = some (.int .i64 (((rowC N c).getD j 0 : Nat) : Int))) := fun j h1 h2 => by
                          by_cases e : j = p
                          · subst e; rw [List.getElem?_set_self (by omega), hdg.out]
                          · rw [List.getElem?_set_ne (by omega)]; exact hvs j h1 (by omega)
                        clear hown hgq hvs
                        generalize c / (N + 1) ^ m = D at *
                        go_wp2_with fail
                        go_roundw
                        case rel =>
                          refine ⟨m + 1, _, ?_, by rw [hnx.out], hst.out.1, hvs2.out, hg2.out⟩
                          by_cases h0 : p = 0
                          · exact .inr ⟨by omega, by subst h0; rfl⟩
                          · exact .inl ⟨p - 1, by omega, by go_num⟩
                        case measure => simp [RowKit.intOf]
                      · have hxl := hown.1
                        have e := vals_eq (xs := rI (rowC N c)) (vs := vs) (by rw [rI_len]; unfold rowC; rw [digs_len]; omega) (fun j hj => by
                          rw [rI_len] at hj
                          have hj' : j < N + 1 := by unfold rowC at hj; rwa [digs_len] at hj
                          rw [rI_at]
                          exact hvs j (by omega) (by omega))
                        subst e
                        have hrv0 : RowV wr w.heap.size N (.slice (some ⟨G, 0, none⟩) (N + 1) (N + 1)) (rowC N c) := ⟨by unfold rowC; rw [digs_len], _, _, rfl, own_mono hown (by omega)⟩
                        have Hrv0 := Lib.hid hrv0
                        have hLk := HL.out.kept hgq
                        obtain ⟨vals, l1, l2⟩ := hLk
                        have Hl2 := Lib.hid l2
                        have HSk := Lib.hid (HSe.out.kept hgq)
                        have hgk := grownBy_trans Hgr.out hgq
                        have hszk := hgk.size
                        have Hgk := Lib.hid hgk
                        have holen := outTo_len (n := N) c
                        have hht2 : Hid (outTo N (c + 1) = outTo N c ++ [rowC N c]) := hht.out
                        clear hown hvs hgq hrv0 l2 hgk hxl
                        generalize outTo N c = ol at *
                        go_wp2_with (at_builtin; refine wpList_append_own _ rfl _ _ 24 rfl w.heap.size 29 iR (.slice none 0 0) 1 24 Tryd.underlying24 hiR hy0 hy1 hy2 rfl (by decide) _ ol.length vals rfl (World.ownsRow.alloc l1 _) ⟨wr.heap.size, 0, none⟩ 1 1 [.slice (some ⟨G, 0, none⟩) (N + 1) (N + 1)] rfl rfl ?g1 ?g2 ?g3 ?g4 ?g5 ?_)
                        case g1 => exact cell_one_new _ _ _
                        case g2 => intro u hu; simp at hu; subst hu; rfl
                        case g3 => unfold maxLen; omega
                        case g4 => omega
                        case g5 => first | omega | (simp; omega)
                        intro v' w12 ho12 gr12 _
                        have hA12 := World.ownsRow.alloc l1 (.cells #[.slice (some ⟨G, 0, none⟩) (N + 1) (N + 1)] 29)
                        have gA12 := World.grownBy_alloc wr (.cells #[.slice (some ⟨G, 0, none⟩) (N + 1) (N + 1)] 29) none
                        have HL12 := Lib.hid (ListAt.more hA12 (fun i hi => by obtain ⟨u, z1, z2⟩ := Hl2.out i hi; exact ⟨u, z1, z2.kept gA12⟩) (Hrv0.out.kept gA12) ho12 gr12)
                        have HS12 := Lib.hid ((HSk.out.kept gA12).beside hA12 ne gr12)
                        have HG12 := Lib.hid (grownBy_row (grownBy_trans Hgk.out gA12) hA12 (Nat.le_refl _) gr12)
                        clear hA12 gA12 ho12 gr12 l1
                        go_wp2_with fail
                        go_roundw
                        case rel => exact ⟨c + 1, by omega, by go_num, by rw [hht2.out]; exact HL12.out, HS12.out, HG12.out⟩
                        case measure => simp [RowKit.intOf]; omega
                · obtain rfl : c = M := by omega
                  go_wp2_with fail
                  go_ret
                  exact ⟨_, rfl, by rw [← HM.out]; exact HL.out, Hgr.out⟩


end Go.Proofs.YtakjlfcgciglgaaDoor

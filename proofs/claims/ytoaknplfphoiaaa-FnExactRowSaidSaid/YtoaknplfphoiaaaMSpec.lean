/-
  The model's RowSaid, SayableOk, CountSayable. No condition but that a row which was handed over can be read.
-/
import Derived.Test.YtoaknplfphoiaaaASpec
import Derived.Test.YtoaknplfphoiaaaRow
import Derived.Test.YtoaknplfphoiaaaGcd
import Derived.Test.YtoaknplfphoiaaaSay
namespace Go.Proofs.Ytoaknplfphoiaaa
open Go.RowKit

def saidTo (N : Nat) (t : Tr) (k : Nat) : List Int := (List.range k).map fun (v : Nat) => t.val N (v : Int) v v
theorem saidTo_len (N : Nat) (t : Tr) (k : Nat) : (saidTo N t k).length = k := by unfold saidTo; simp
theorem saidTo_next (N : Nat) (t : Tr) (k : Nat) : saidTo N t (k + 1) = saidTo N t k ++ [t.val N k k k] := by unfold saidTo; rw [List.range_succ, List.map_append]; rfl
theorem saidTo_at (N : Nat) (t : Tr) {k v : Nat} (h : v < k) : (saidTo N t k).getD v 0 = t.val N v v v := by unfold saidTo; simp [List.getD_eq_getElem?_getD, h]
def saidL (n : Int) (l : List UInt8) : List Int :=
  match fOf l with
  | some t => if inB n 1 6 = true then saidTo n.toNat t (n.toNat + 1) else []
  | none => []
theorem saidL_n {n : Int} {l : List UInt8} (h : fOf l = none) : saidL n l = [] := by unfold saidL; rw [h]
theorem saidL_o {n : Int} {l : List UInt8} (h : inB n 1 6 = false) : saidL n l = [] := by unfold saidL; rw [h]; cases fOf l <;> rfl
theorem saidL_t {N : Nat} {l : List UInt8} {t : Tr} (h : fOf l = some t) (hi : inB N 1 6 = true) : saidL N l = saidTo N t (N + 1) := by unfold saidL; rw [h]; simp only [hi]; rfl

def SaRel (N : Nat) (t : Tr) (w : World) (v i : Value) (wr : World) : Prop :=
  ∃ k : Nat, k ≤ N + 1 ∧ i = .int .i64 k ∧ wr.ownsRow w.heap.size 3 1 v (saidTo N t k).length ((saidTo N t k).map (Value.int .i64)) ∧ w.grownBy wr none

theorem ssaid_no (n : Int) (s : ByteArray) (w : World) (h : leastI n (bl s) = -1) :
    Calls Try.prog 5 #[.int .i64 n, .string s] w (IntsPost [] w) := by
  have c1 := fun w => sleast_any n s w
  rw [h] at c1
  clear h
  have hO := Lib.hid (OwnI.made w)
  by_cases h0 : 0 ≤ n
  · go_enter Try.func5, Try.ntmps5
    go_wp2_with fail
    go_loopw [5, 6] (fun v i wr => v = .slice (some ⟨w.heap.size, 0, none⟩) 0 0 ∧ i = .int .i64 0 ∧ wr = w.alloc (.cells #[] 3)) (fun _ _ _ => 0)
    case atStart => exact ⟨rfl, rfl, rfl⟩
    case round =>
      obtain ⟨rfl, rfl, rfl⟩ := hrel
      go_wp2_with fail
      refine (c1 _).mono ?_
      rintro e w1 ⟨rfl, g1⟩
      clear c1
      go_wp2_with fail
      go_ret
      exact ⟨_, _, rfl, hO.out.kept g1, grownBy_trans (World.grownBy_alloc _ _ none) g1⟩
  · clear c1
    go_enter Try.func5, Try.ntmps5
    go_wp2_with fail
    go_loopw [5, 6] (fun v i wr => v = .slice (some ⟨w.heap.size, 0, none⟩) 0 0 ∧ i = .int .i64 0 ∧ wr = w.alloc (.cells #[] 3)) (fun _ _ _ => 0)
    case atStart => exact ⟨rfl, rfl, rfl⟩
    case round =>
      obtain ⟨rfl, rfl, rfl⟩ := hrel
      go_wp2_with fail
      go_ret
      exact ⟨_, _, rfl, hO.out, World.grownBy_alloc _ _ none⟩

set_option maxRecDepth 100000 in
set_option maxHeartbeats 4000000 in
theorem ssaid_yes (N : Nat) (hN : 1 ≤ N ∧ N ≤ 6) (s : ByteArray) (w : World) {t : Tr} (ho : fOf (bl s) = some t) :
    Calls Try.prog 5 #[.int .i64 N, .string s] w (IntsPost (saidTo N t (N + 1)) w) := by
  obtain ⟨i0, hi, hz0, hz1, hz2⟩ := info_parts infoInt
  have c1 := fun w => sleast_any N s w
  rw [leastI_t ho (inB_nat hN)] at c1
  have l0 : 0 ≤ lowU N t (cub N) := by have := vokB_of (lowU_ok hN t (cub N)); omega
  obtain ⟨hs, hl⟩ := fOf_some ho
  have hsz : s.size ≤ 1048576 := by rw [bl_size, hs]; omega
  have cv : Hid (∀ (v : Nat), v ≤ N → ∀ (w : World), Calls Try.prog 16 #[.int .i64 N, .string s, .int .i64 v, .int .i64 v, .int .i64 v] w fun e w' => e = .returned (.int .i64 (t.val N v v v)) ∧ w = w') := fun v hv w => sv_all (thrB_mk (vokB_t (by omega)) (vokB_t (by omega)) (vokB_t (by omega))) t s w hs hsz
  clear ho hs hl hsz
  generalize lowU N t (cub N) = L at *
  go_enter Try.func5, Try.ntmps5
  go_wp2_with fail
  go_loopw [5, 6] (fun v i wr => SaRel N t w v i wr) (fun _ i _ => N + 1 - (intOf i).toNat)
  case atStart => exact ⟨0, by omega, rfl, OwnI.made w, World.grownBy_alloc w _ none⟩
  case round =>
    obtain ⟨k, hk, rfl, hown, hgr⟩ := hrel
    by_cases hlt : k ≤ N
    · have c2 := cv.out k hlt
      have hlen := saidTo_len N t k
      have hnx := Lib.hid (saidTo_next N t k)
      go_wp2_with fail
      refine (c1 _).mono ?_
      rintro e w1 ⟨rfl, g1⟩
      replace hown := World.ownsRow.kept hown g1 (by cases Value.ownBlock _ <;> simp)
      replace hgr := grownBy_trans hgr g1
      clear g1
      generalize t.val N k k k = V at *
      go_wp2_with (first
        | (go_at_call 16; refine (c2 _).mono ?_; rintro e w2 ⟨rfl, rfl⟩)
        | (at_builtin; refine wpList_append_own _ rfl _ _ 22 rfl w.heap.size 3 i0 (.int .i64 0) 1 8 Try.underlying22 hi hz0 hz1 hz2 rfl (by decide) _ _ _ rfl (World.ownsRow.alloc hown _) ⟨w1.heap.size, 0, none⟩ 1 1 [.int .i64 V] rfl rfl ?c1 ?c2 ?c3 ?c4 ?c5 ?_))
      case c1 =>
        intro j u hj
        match j, hj with
        | 0, hj => simp at hj; subst hj; simp [Addr.add]
      case c2 => intro u hu; simp at hu; subst hu; rfl
      case c3 => unfold maxLen; omega
      case c4 => omega
      case c5 => have := hgr.size; simp; omega
      intro v' w3 hown' hgrow _
      have hA := World.ownsRow.alloc hown (.cells #[.int .i64 V] 3)
      have hG := Lib.hid (grownBy_row (grownBy_trans hgr (World.grownBy_alloc w1 (.cells #[.int .i64 V] 3) none)) hA (Nat.le_refl _) hgrow)
      have Ho : Hid (w3.ownsRow w.heap.size 3 1 v' (saidTo N t (k + 1)).length ((saidTo N t (k + 1)).map (Value.int .i64))) := by
        unfold Hid
        rw [hnx.out]
        simpa [saidTo_len] using hown'
      clear hown hown' hgrow hA hgr hlen
      go_wp2
      go_roundw
      case rel => exact ⟨k + 1, by omega, by go_num, Ho.out, hG.out⟩
      case measure => simp [intOf]; omega
    · obtain rfl : k = N + 1 := by omega
      obtain ⟨a, cap, rfl, _, hO⟩ := ownI_shape hown
      have HO := Lib.hid hO
      clear hown hO cv
      go_wp2_with fail
      go_ret
      exact ⟨a, cap, rfl, HO.out, hgr⟩

theorem ssaid_any (n : Int) (s : ByteArray) (w : World) :
    Calls Try.prog 5 #[.int .i64 n, .string s] w (IntsPost (saidL n (bl s)) w) := by
  cases hi : inB n 1 6
  · rw [saidL_o hi]; exact ssaid_no n s w (leastI_o hi)
  · cases ho : fOf (bl s) with
    | none => rw [saidL_n ho]; exact ssaid_no n s w (leastI_n ho)
    | some t =>
      obtain ⟨N, rfl, hN⟩ := nat_of hi
      rw [saidL_t ho hi]
      exact ssaid_yes N hN s w ho

/-! Rows that may be said. -/
def sayAt (n : Int) (xs : List Int) (v : Nat) : Bool := inB (xs.getD v 0) 0 n && (xs.getD v 0 % ((Nat.gcd v n.toNat : Nat) : Int) == 0)
def sayB (n : Int) (xs : List Int) : Bool := inB n 1 6 && (decide ((xs.length : Int) = n + 1) && (List.range xs.length).all fun v => sayAt n xs v)
theorem sayB_of {n : Int} {xs : List Int} (h : sayB n xs = true) : (1 ≤ n ∧ n ≤ 6) ∧ (xs.length : Int) = n + 1 ∧ ∀ v, v < xs.length → sayAt n xs v = true := by
  unfold sayB at h
  rw [Bool.and_eq_true, Bool.and_eq_true, List.all_eq_true] at h
  exact ⟨inB_of h.1, of_decide_eq_true h.2.1, fun v hv => h.2.2 v (List.mem_range.2 hv)⟩
theorem sayB_mk {n : Int} {xs : List Int} (h1 : 1 ≤ n ∧ n ≤ 6) (h2 : (xs.length : Int) = n + 1) (h3 : ∀ v, v < xs.length → sayAt n xs v = true) : sayB n xs = true := by
  unfold sayB
  rw [Bool.and_eq_true, Bool.and_eq_true, List.all_eq_true]
  exact ⟨inB_t h1, decide_eq_true h2, fun v hv => h3 v (List.mem_range.1 hv)⟩
theorem sayB_no {n : Int} {xs : List Int} {v : Nat} (hv : v < xs.length) (h : sayAt n xs v = false) : sayB n xs = false := by
  cases e : sayB n xs
  · rfl
  · have := (sayB_of e).2.2 v hv
    rw [h] at this; cases this
theorem sayB_f {n : Int} {xs : List Int} (h : ¬ (xs.length : Int) = n + 1) : sayB n xs = false := by
  cases e : sayB n xs
  · rfl
  · exact absurd (sayB_of e).2.1 h
theorem sayB_o {n : Int} {xs : List Int} (h : inB n 1 6 = false) : sayB n xs = false := by unfold sayB; rw [h]; rfl
def SyRel (n : Int) (xs : List Int) (w : World) (i : Value) (wr : World) : Prop := ∃ k : Nat, k ≤ xs.length ∧ i = .int .i64 k ∧ (∀ j, j < k → sayAt n xs j = true) ∧ w.grownBy wr none

end Go.Proofs.Ytoaknplfphoiaaa

/-
  Joined out of the texts MSpec, DVa, MSpec2: what each holds is told at its head.
-/
import Derived.Test.YtlnffpofbfigaaaGreatDoorM323050c2
import Derived.Test.YtlnffpofbfigaaaGreatDoorMdba168c0
import Derived.Test.YtlnffpofbfigaaaGreatDoorMaeaae773
import Derived.Test.YtlnffpofbfigaaaGreatDoorM2359aa93
import Derived.Test.YtlnffpofbfigaaaGreatDoorM377be3a7

/-
  The model's RowSaid, SayableOk, CountSayable. No condition but that a row which was handed over can be read.
-/
namespace Go.Proofs.YtlnffpofbfigaaaGreatDoor
open Go.RowKit

def saidTo (N : Nat) (t : Tr) (k : Nat) : List Int := (List.range k).map fun (v : Nat) => t.val N (v : Int) v v
theorem saidTo_len (N : Nat) (t : Tr) (k : Nat) : (saidTo N t k).length = k := by unfold saidTo; simp
theorem saidTo_next (N : Nat) (t : Tr) (k : Nat) : saidTo N t (k + 1) = saidTo N t k ++ [t.val N k k k] := by unfold saidTo; rw [List.range_succ, List.map_append]; rfl
theorem saidTo_at (N : Nat) (t : Tr) {k v : Nat} (h : v < k) : (saidTo N t k).getD v 0 = t.val N v v v := by unfold saidTo; simp [List.getD_eq_getElem?_getD, h]
def saidL (n : Int) (l : List UInt8) : List Int :=
  match fOf l with
  | some t => if inB n 1 6 = true then saidTo n.toNat t (n.toNat + 1) else []
  | none => []
theorem saidL_n {n : Int} {l : List UInt8} (h : fOf l = none) : saidL n l = [] := by unfold saidL; rw [h]
theorem saidL_o {n : Int} {l : List UInt8} (h : inB n 1 6 = false) : saidL n l = [] := by unfold saidL; rw [h]; cases fOf l <;> rfl
theorem saidL_t {N : Nat} {l : List UInt8} {t : Tr} (h : fOf l = some t) (hi : inB N 1 6 = true) : saidL N l = saidTo N t (N + 1) := by unfold saidL; rw [h]; simp only [hi]; rfl

def SaRel (N : Nat) (t : Tr) (w : World) (v i : Value) (wr : World) : Prop :=
  ∃ k : Nat, k ≤ N + 1 ∧ i = .int .i64 k ∧ wr.ownsRow w.heap.size 3 1 v (saidTo N t k).length ((saidTo N t k).map (Value.int .i64)) ∧ w.grownBy wr none

theorem ssaid_no (n : Int) (s : ByteArray) (w : World) (h : leastI n (bl s) = -1) :
    Calls Tryz.prog 72 #[.int .i64 n, .string s] w (IntsPost [] w) := by
  have c1 := fun w => sleast_any n s w
  rw [h] at c1
  clear h
  have hO := Lib.hid (OwnI.made w)
  by_cases h0 : 0 ≤ n
  · go_enter Tryz.func72, Tryz.ntmps72
    go_wp2_with fail
    go_loopw [5, 6] (fun v i wr => v = .slice (some ⟨w.heap.size, 0, none⟩) 0 0 ∧ i = .int .i64 0 ∧ wr = w.alloc (.cells #[] 3)) (fun _ _ _ => 0)
    case atStart => exact ⟨rfl, rfl, rfl⟩
    case round =>
      obtain ⟨rfl, rfl, rfl⟩ := hrel
      go_wp2_with fail
      refine (c1 _).mono ?_
      rintro e w1 ⟨rfl, g1⟩
      clear c1
      go_wp2_with fail
      go_ret
      exact ⟨_, _, rfl, hO.out.kept g1, grownBy_trans (World.grownBy_alloc _ _ none) g1⟩
  · clear c1
    go_enter Tryz.func72, Tryz.ntmps72
    go_wp2_with fail
    go_loopw [5, 6] (fun v i wr => v = .slice (some ⟨w.heap.size, 0, none⟩) 0 0 ∧ i = .int .i64 0 ∧ wr = w.alloc (.cells #[] 3)) (fun _ _ _ => 0)
    case atStart => exact ⟨rfl, rfl, rfl⟩
    case round =>
      obtain ⟨rfl, rfl, rfl⟩ := hrel
      go_wp2_with fail
      go_ret
      exact ⟨_, _, rfl, hO.out, World.grownBy_alloc _ _ none⟩

set_option maxRecDepth 100000 in
set_option maxHeartbeats 4000000 in
theorem ssaid_yes (N : Nat) (hN : 1 ≤ N ∧ N ≤ 6) (s : ByteArray) (w : World) {t : Tr} (ho : fOf (bl s) = some t) :
    Calls Tryz.prog 72 #[.int .i64 N, .string s] w (IntsPost (saidTo N t (N + 1)) w) := by
  obtain ⟨i0, hi, hz0, hz1, hz2⟩ := info_parts infoInt
  have c1 := fun w => sleast_any N s w
  rw [leastI_t ho (inB_nat hN)] at c1
  have l0 : 0 ≤ lowU N t (cub N) := by have := vokB_of (lowU_ok hN t (cub N)); omega
  obtain ⟨hs, hl⟩ := fOf_some ho
  have hsz : s.size ≤ 1048576 := by rw [bl_size, hs]; omega
  have cv : Hid (∀ (v : Nat), v ≤ N → ∀ (w : World), Calls Tryz.prog 111 #[.int .i64 N, .string s, .int .i64 v, .int .i64 v, .int .i64 v] w fun e w' => e = .returned (.int .i64 (t.val N v v v)) ∧ w = w') := fun v hv w => sv_all (thrB_mk (vokB_t (by omega)) (vokB_t (by omega)) (vokB_t (by omega))) t s w hs hsz
  clear ho hs hl hsz
  generalize lowU N t (cub N) = L at *
  go_enter Tryz.func72, Tryz.ntmps72
  go_wp2_with fail
  go_loopw [5, 6] (fun v i wr => SaRel N t w v i wr) (fun _ i _ => N + 1 - (intOf i).toNat)
  case atStart => exact ⟨0, by omega, rfl, OwnI.made w, World.grownBy_alloc w _ none⟩
  case round =>
    obtain ⟨k, hk, rfl, hown, hgr⟩ := hrel
    by_cases hlt : k ≤ N
    · have c2 := cv.out k hlt
      have hlen := saidTo_len N t k
      have hnx := Lib.hid (saidTo_next N t k)
      go_wp2_with fail
      refine (c1 _).mono ?_
      rintro e w1 ⟨rfl, g1⟩
      replace hown := World.ownsRow.kept hown g1 (by cases Value.ownBlock _ <;> simp)
      replace hgr := grownBy_trans hgr g1
      clear g1
      generalize t.val N k k k = V at *
      go_wp2_with (first
        | (go_at_call 111; refine (c2 _).mono ?_; rintro e w2 ⟨rfl, rfl⟩)
        | (at_builtin; refine wpList_append_own _ rfl _ _ 102 rfl w.heap.size 3 i0 (.int .i64 0) 1 8 Tryz.underlying102 hi hz0 hz1 hz2 rfl (by decide) _ _ _ rfl (World.ownsRow.alloc hown _) ⟨w1.heap.size, 0, none⟩ 1 1 [.int .i64 V] rfl rfl ?c1 ?c2 ?c3 ?c4 ?c5 ?_))
      case c1 =>
        intro j u hj
        match j, hj with
        | 0, hj => simp at hj; subst hj; simp [Addr.add]
      case c2 => intro u hu; simp at hu; subst hu; rfl
      case c3 => unfold maxLen; omega
      case c4 => omega
      case c5 => have := hgr.size; simp; omega
      intro v' w3 hown' hgrow _
      have hA := World.ownsRow.alloc hown (.cells #[.int .i64 V] 3)
      have hG := Lib.hid (grownBy_row (grownBy_trans hgr (World.grownBy_alloc w1 (.cells #[.int .i64 V] 3) none)) hA (Nat.le_refl _) hgrow)
      have Ho : Hid (w3.ownsRow w.heap.size 3 1 v' (saidTo N t (k + 1)).length ((saidTo N t (k + 1)).map (Value.int .i64))) := by
        unfold Hid
        rw [hnx.out]
        simpa [saidTo_len] using hown'
      clear hown hown' hgrow hA hgr hlen
      go_wp2
      go_roundw
      case rel => exact ⟨k + 1, by omega, by go_num, Ho.out, hG.out⟩
      case measure => simp [intOf]; omega
    · obtain rfl : k = N + 1 := by omega
      obtain ⟨a, cap, rfl, _, hO⟩ := ownI_shape hown
      have HO := Lib.hid hO
      clear hown hO cv
      go_wp2_with fail
      go_ret
      exact ⟨a, cap, rfl, HO.out, hgr⟩

theorem ssaid_any (n : Int) (s : ByteArray) (w : World) :
    Calls Tryz.prog 72 #[.int .i64 n, .string s] w (IntsPost (saidL n (bl s)) w) := by
  cases hi : inB n 1 6
  · rw [saidL_o hi]; exact ssaid_no n s w (leastI_o hi)
  · cases ho : fOf (bl s) with
    | none => rw [saidL_n ho]; exact ssaid_no n s w (leastI_n ho)
    | some t =>
      obtain ⟨N, rfl, hN⟩ := nat_of hi
      rw [saidL_t ho hi]
      exact ssaid_yes N hN s w ho

/-! Rows that may be said. -/
end Go.Proofs.YtlnffpofbfigaaaGreatDoor

/-
  The answers to lines that ask, in plain terms.
-/
namespace Go.Proofs.YtlnffpofbfigaaaGreatDoor
open Go.RowKit

/-- The lines of one word that ask. -/
def askW : List (List UInt8) := [[115, 116, 101, 112, 115], [116, 101, 120, 116], [97, 108, 119, 97, 121, 115], [108, 101, 97, 115, 116], [97, 103, 97, 105, 110, 115, 116], [99, 104, 97, 105, 110, 115], [108, 101, 116, 116, 101, 114, 115], [109, 111, 118, 101, 115], [114, 111, 119]]
def yesA (b : Bool) : ByteArray := cond b ⟨#[121, 101, 115]⟩ ⟨#[110, 111]⟩
def whatA : ByteArray := ⟨#[119, 104, 97, 116]⟩
def noneA : ByteArray := ⟨#[110, 111, 110, 101]⟩
def rowA (l : List Int) : ByteArray := bs (rowT (l.map Int.toNat))
def agL (n : Int) (l : List UInt8) : List Int :=
  match agI n l with
  | some k => [tA n.toNat k, tB n.toNat k, tC n.toNat k]
  | none => []
/-- The answer to the question of a word. -/
def ansQ (n : Int) (l : List UInt8) : Nat → ByteArray
  | 0 => bs (decL n.toNat)
  | 1 => bs l
  | 2 => yesA (alwB n l)
  | 3 => vtext n (leastI n l)
  | 4 => rowA (agL n l)
  | 5 => rowA (chI l)
  | 6 => bs (decL (lsI l).toNat)
  | 7 => bs (decL (movI n l).toNat)
  | _ => rowA (saidL n l)
/-- .. to three numbers' texts behind at .. -/
def ansA (n : Int) (l x y z : List UInt8) : ByteArray :=
  if digI x < 0 ∨ digI y < 0 ∨ digI z < 0 then whatA
  else if valI n l (digI x) (digI y) (digI z) < 0 then noneA
  else vtext n (valI n l (digI x) (digI y) (digI z))
/-- .. to a line of more words, or of another one. -/
def ansO (n : Int) (l line : List UInt8) : ByteArray :=
  match cutL 32 line with
  | [f, x] => if f = [102, 114, 111, 109] ∧ isF x = true then yesA (folI n [x] l) else whatA
  | [a, x, y, z] => if a = [97, 116] then ansA n l x y z else whatA
  | _ => whatA
/-- .. to any line that is no deed. -/
def ansD (n : Int) (l line : List UInt8) : ByteArray := if line ∈ askW then ansQ n l (askW.idxOf line) else ansO n l line

theorem ansO_one {n : Int} {l line : List UInt8} (h : ∀ c ∈ line, c ≠ (32 : UInt8)) : ansO n l line = whatA := by
  unfold ansO
  rw [cutL_one h]
theorem ansD_q {n : Int} {l line : List UInt8} {q : Nat} (h : askW[q]? = some line) : ansD n l line = ansQ n l q := by
  have hm : line ∈ askW := List.mem_of_getElem? h
  unfold ansD
  rw [if_pos hm]
  congr 1
  have hq : q < 9 := (List.getElem?_eq_some_iff.1 h).1
  match q, hq, h with
  | 0, _, h => cases h; decide
  | 1, _, h => cases h; decide
  | 2, _, h => cases h; decide
  | 3, _, h => cases h; decide
  | 4, _, h => cases h; decide
  | 5, _, h => cases h; decide
  | 6, _, h => cases h; decide
  | 7, _, h => cases h; decide
  | 8, _, h => cases h; decide
theorem ansD_o {n : Int} {l line : List UInt8} (h : line ∉ askW) : ansD n l line = ansO n l line := by unfold ansD; rw [if_neg h]

end Go.Proofs.YtlnffpofbfigaaaGreatDoor

/-
  The model's CountSayable. No condition.
-/
namespace Go.Proofs.YtlnffpofbfigaaaGreatDoor
open Go.RowKit

end Go.Proofs.YtlnffpofbfigaaaGreatDoor

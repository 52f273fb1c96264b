/-
  Numbers below a hundred as texts: the model's l1Number.
-/
import Derived.Test.YtlnffpofbfigaaaGreatDoorM972f736b
import Derived.Test.YtlnffpofbfigaaaGreatDoorM61ee5d0c
import Derived.Test.YtlnffpofbfigaaaGreatDoorM17364382
import Derived.Test.YtlnffpofbfigaaaGreatDoorM2359aa93
namespace Go.Proofs.YtlnffpofbfigaaaGreatDoor
open Go.RowKit

theorem byte1c {w : World} {b : Nat} (c : UInt8) (n : Int) (hn : n = (c.toNat : Int)) (h : w.cell? ⟨b, 0, none⟩ = some (.int .u8 n)) :
    (convert 22 9 (.slice (some ⟨b, 0, none⟩) 1 1)).run Tryz.prog w = .ok (.string ⟨#[c]⟩) w := by
  refine run_convert_bytes_back (P := Tryz.prog) _ 22 9 5 ⟨b, 0, none⟩ 1 [c] Tryz.underlying22 Tryz.underlying5 Tryz.underlying9 (fun j hj => ?_)
  obtain rfl : j = 0 := by simpa using hj
  rw [add_none, h, hn]
  rfl
theorem oneD_dec {k : Nat} (h : k < 10) : oneD (k : Int) = decL k := by rw [decL_small h]; rfl

set_option maxRecDepth 8000 in
set_option maxHeartbeats 4000000 in
theorem num99_any (k : Nat) (h : k < 100) (w : World) :
    Calls Tryz.prog 62 #[.int .i64 k] w fun e w' => e = .returned (.string (bs (decL k))) ∧ w.grownBy w' none := by
  by_cases h10 : k < 10
  · have := num9_any (k : Int) (inB_t (by omega)) w
    rw [oneD_dec h10] at this
    exact this
  · obtain ⟨d, hd⟩ : ∃ d, d = k / 10 := ⟨_, rfl⟩
    obtain ⟨r, hr⟩ : ∃ r, r = k % 10 := ⟨_, rfl⟩
    have hk : k = 10 * d + r := by omega
    have hd9 : d < 10 := by omega
    have hr9 : r < 10 := by omega
    have e1 : decL k = decL d ++ [UInt8.ofNat (48 + r)] := by rw [decL_great h10, ← hd, ← hr]
    have c := num9_any (d : Int) (inB_t (by omega))
    rw [oneD_dec hd9] at c
    have q1 : ((k : Int)).tdiv 10 = (d : Int) := by rw [Int.tdiv_eq_ediv_of_nonneg (by omega)]; omega
    have q2 : ((k : Int)).tmod 10 = (r : Int) := by rw [Int.tmod_eq_emod_of_nonneg (by omega)]; omega
    have q3 : ¬ ((k : Int) < 10) := by omega
    have q4 : IntKind.u8.wrap (48 + (r : Int)) = 48 + (r : Int) := IntWalk.u8_in _ (by omega)
    have hb : ∀ (W : World) (b : Nat), W.cell? ⟨b, 0, none⟩ = some (.int .u8 (48 + (r : Int))) → (convert 22 9 (.slice (some ⟨b, 0, none⟩) 1 1)).run Tryz.prog W = .ok (.string ⟨#[UInt8.ofNat (48 + r)]⟩) W := fun W b hc => byte1c (UInt8.ofNat (48 + r)) _ (by
      have : (UInt8.ofNat (48 + r)).toNat = 48 + r := by simp; omega
      rw [this]; omega) hc
    obtain ⟨C, hC⟩ : ∃ C, C = UInt8.ofNat (48 + r) := ⟨_, rfl⟩
    rw [← hC] at hb
    rw [e1, ← hC]
    have hsz : ¬ (9223372036854775807 < (bs (decL d)).size + 1) := by rw [bs_size, decL_small hd9]; simp
    have hA := bs_app (decL d) [C]
    rw [← hA]
    have hS : bs [C] = ⟨#[C]⟩ := rfl
    rw [hS]
    have n8 : Hid (∀ (W : World), (W.alloc (.cells #[.int .u8 (48 + (r : Int))] 5)).cell? ⟨W.heap.size, 0, none⟩ = some (.int .u8 (48 + (r : Int)))) := Lib.hid fun W => (CellsAt.new W _ _).cell rfl
    have n9 : Hid (∀ (W2 : World), (w.alloc (.cells #[.int .u8 (48 + (r : Int))] 5)).drew.grownBy W2 none → W2.cell? ⟨w.heap.size, 0, none⟩ = some (.int .u8 (48 + (r : Int)))) := Lib.hid fun W2 g => ((CellsAt.new w _ _).grown (show (w.alloc _).grownBy W2 none from ⟨g.os, g.tape, g.output, g.size, g.block⟩)).cell rfl
    have HD9 := Lib.hid hd9
    have HR9 := Lib.hid hr9
    clear hC e1 hA hS hd hr h10 h hk hr9 hd9
    generalize bs (decL d) = D at *
    go_enter Tryz.func62, Tryz.ntmps62
    go_wp2_with fail
    have q6 : IntKind.i64.wrap (d : Int) = (d : Int) := IntWalk.i64_in _ (by have := HD9.out; omega)
    have q5 : IntKind.i64.wrap (48 + (r : Int)) = 48 + (r : Int) := IntWalk.i64_in _ (by have := HR9.out; omega)
    go_region_with (first | (go_at_call 62; (with_reducible refine (c _).mono ?_); rintro e w2 ⟨rfl, hg2⟩; have b0 := hb (w2.alloc (.cells #[.int .u8 (48 + (r : Int))] 5)) w2.heap.size (n8.out w2); (first | (have b1 := hb w2 w.heap.size (n9.out w2 hg2)) | skip)))
    all_goals go_wp2_with fail
    all_goals go_ret
    all_goals first | exact ⟨rfl, grownBy_trans (drew_grown hg2) (World.grownBy_alloc _ _ none)⟩ | exact ⟨rfl, grownBy_trans (World.grownBy_alloc w (.cells #[.int .u8 (48 + (r : Int))] 5) none) (drew_grown hg2)⟩

end Go.Proofs.YtlnffpofbfigaaaGreatDoor

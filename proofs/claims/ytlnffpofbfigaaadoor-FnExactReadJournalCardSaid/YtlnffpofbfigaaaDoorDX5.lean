/-
  The laws' markText: the text of a number behind an m.
-/
import Derived.Test.YtlnffpofbfigaaaDoorDeskN
import Derived.Test.YtlnffpofbfigaaaDoorDX3
import Derived.Laws.IdiomStrings
namespace Go.Proofs.YtlnffpofbfigaaaDoor
open Go.RowKit

def mtx (k : Nat) : List UInt8 := 109 :: decL k
def MtRel (k : Nat) (w : World) (kv ov : Value) (wr : World) : Prop := ∃ (j : Nat) (o : List UInt8), j ≤ k ∧ kv = .int .i64 j ∧ ov = .string (bs o) ∧ (0 < j → decL k = decL j ++ o) ∧ (j = 0 → decL k = o) ∧ o.length ≤ 30 ∧ w.grownBy wr none

set_option maxRecDepth 8000 in
set_option maxHeartbeats 2000000 in
theorem markText_any (k : Nat) (hk : 0 < k) (hk2 : k ≤ 100000000) (w : World) :
    Calls Tryd.prog 13 #[.int .i64 k] w fun e w' => e = .returned (.string (bs (mtx k))) ∧ w.grownBy w' none := by
  go_enter Tryd.func13, Tryd.ntmps13
  go_wp2
  go_loopw [0, 3] (fun kv ov wr => MtRel k w kv ov wr) (fun kv _ _ => (intOf kv).toNat)
  case atStart => exact ⟨k, [], Nat.le_refl _, rfl, rfl, fun _ => by simp, fun h => by omega, by simp, grownBy_refl _ _⟩
  case round =>
    obtain ⟨j, o, hj, rfl, rfl, h1, h0, hl, hgr⟩ := hrel
    have Hgr := Lib.hid hgr
    have H1 := Lib.hid h1
    have H0 := Lib.hid h0
    have hz := bs_size o
    clear hgr h1 h0
    by_cases hp : 0 < j
    · obtain ⟨c, hc⟩ : ∃ c, c = UInt8.ofNat (48 + j % 10) := ⟨_, rfl⟩
      have hb : (c.toNat : Int) = 48 + (j : Int) % 10 := by
        rw [hc, UInt8.toNat_ofNat_of_lt' (by show 48 + j % 10 < 256; omega)]; omega
      have hcv : (convert 40 9 (.slice (some ⟨wr.heap.size, 0, none⟩) 1 1)).run Tryd.prog (wr.alloc (.cells #[.int .u8 (48 + (j : Int) % 10)] 5)) = .ok (.string (bs [c])) (wr.alloc (.cells #[.int .u8 (48 + (j : Int) % 10)] 5)) := by
        refine run_convert_bytes_back _ 40 9 5 ⟨wr.heap.size, 0, none⟩ 1 [c] Tryd.underlying40 Tryd.underlying5 Tryd.underlying9 fun i hi => ?_
        have h0 : i = 0 := by simpa using hi
        subst h0
        rw [add_none]
        show _ = some (Value.int .u8 (c.toNat : Int))
        rw [hb]
        exact (CellsAt.new wr _ _).cell rfl
      have hnew : (0 < j / 10 → decL k = decL (j / 10) ++ (c :: o)) ∧ (j / 10 = 0 → decL k = c :: o) := by
        have e := H1.out hp
        by_cases h10 : j < 10
        · rw [decL_small h10, show 48 + j = 48 + j % 10 by omega, ← hc] at e
          exact ⟨fun h => by omega, fun _ => e⟩
        · rw [decL_great h10, ← hc, List.append_assoc] at e
          exact ⟨fun _ => e, fun h => by omega⟩
      have hlen : (c :: o).length ≤ 30 := by
        have hk9 := decL_len (k := k) (m := 9) (by omega) (by omega)
        by_cases h10 : j / 10 = 0
        · rw [hnew.2 h10] at hk9; omega
        · rw [hnew.1 (by omega), List.length_append] at hk9; omega
      have ho : bs [c] ++ bs o = bs (c :: o) := bs_app _ _
      have hgn := Lib.hid (grownBy_trans Hgr.out (World.grownBy_alloc wr (.cells #[.int .u8 (48 + (j : Int) % 10)] 5) none))
      have hs1 : (bs [c]).size = 1 := rfl
      have HN := Lib.hid hnew
      clear hnew hc hb
      go_wp2
      go_roundw
      case rel => exact ⟨j / 10, c :: o, by omega, by go_num, by rw [← ho], HN.out.1, HN.out.2, hlen, hgn.out⟩
      case measure => simp [intOf]; omega
    · obtain rfl : j = 0 := by omega
      go_wp2
      go_ret
      refine ⟨?_, Hgr.out⟩
      rw [mtx, (show decL k = o from H0.out trivial), show (109 :: o) = [109] ++ o from rfl, ← bs_app]
      rfl

end Go.Proofs.YtlnffpofbfigaaaDoor

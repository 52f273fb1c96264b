/-
  Joined out of the texts DLd, DLz: what each holds is told at its head.
-/
import Derived.Test.YtlnffpofbfigaaaGreatDoorRows
import Derived.Test.YtlnffpofbfigaaaGreatDoorM4ae05862
import Derived.ProofKit
import Derived.OpenShut
import Derived.OpenVars
import Derived.LaidMore
import Derived.Stop.Joined
import Derived.Stop.LaidErr

/-
  From the premise that the listed variables lie as the program's text lays them: the words of deeds, and the library's two errors.
-/
namespace Go.Proofs.YtlnffpofbfigaaaGreatDoor
open Go.ChangeShapes Go.WideShapes Go.ChangeAt Go.RowKit Go.Stop

theorem dword_list : (Rows.laid_loop_example_manyvalues_impl_deedWords : DataW Unit) = .agg (wordsL.map fun l => (DataW.lit (.string l) : DataW Unit)) := by kernel_rfl

theorem dword_cells {W : World} {g t f : Nat} {cs : Array Value} {p : List MemPlace} (hg : Tryz.prog.globalNamed "loop.example/manyvalues/impl.deedWords" = some g) (ht : (Tryz.prog.globals[g]?).map (·.type) = some t) (hv : W.var? Tryz.prog "loop.example/manyvalues/impl.deedWords" = some cs)
    (hd : DataW.trod (fun _ => ()) Tryz.prog W 0 (fun _ => true) false f t cs.toList = some (Rows.laid_loop_example_manyvalues_impl_deedWords, p)) : WdAt W := by
  rw [dword_list] at hd
  obtain rfl := Option.some.inj ((show Tryz.prog.globalNamed "loop.example/manyvalues/impl.deedWords" = some 0 by kernel_rfl).symm.trans hg)
  obtain rfl := Option.some.inj ((show (Tryz.prog.globals[0]?).map (·.type) = some 81 by kernel_rfl).symm.trans ht)
  obtain ⟨xs, m, _, ex, _, hl, hel⟩ := DataW.trod_array Tryz.underlying81 hd
  have hc1 : Tryz.prog.cellsOf 9 = 1 := by kernel_rfl
  have hlen : wordsL.length = 7 := rfl
  have e3 : (xs.map (·.1)) = wordsL.map fun l => (DataW.lit (.string l) : DataW Unit) := (DataW.agg.inj (Prod.mk.inj ex).1).symm
  have hxl : xs.length = 7 := by
    have := congrArg List.length e3
    simpa [hlen] using this
  have hc : ∀ r, r < 7 → W.cell? ⟨0, r, none⟩ = some (.string (bs (wordsL.getD r []))) := by
    intro r hr
    have hE := hel r (by omega)
    rw [hc1, Nat.mul_one, List.getElem?_eq_getElem (by omega)] at hE
    obtain ⟨z, e1, e2, _⟩ := DataW.trod_string Tryz.underlying9 hE
    have e4 : (xs.map (·.1))[r]? = (wordsL.map fun l => (DataW.lit (.string l) : DataW Unit))[r]? := by rw [e3]
    rw [List.getElem?_map, List.getElem?_map, List.getElem?_eq_getElem (by omega : r < xs.length), List.getElem?_eq_getElem (by omega : r < wordsL.length), e2] at e4
    have hz : z = bs (wordsL.getD r []) := by
      simp only [Option.map_some, Option.some.injEq, DataW.lit.injEq, Lit.string.injEq] at e4
      rw [List.getD_eq_getElem?_getD, List.getElem?_eq_getElem (by omega : r < wordsL.length), Option.getD_some, ← e4]
      exact (bs_bl z).symm
    rw [World.var?_cell hg hv r, ← hz]
    have : cs.toList[r]? = some (.string z) := by
      have h0 : ((cs.toList.drop r).take 1)[0]? = some (.string z) := by rw [e1]; rfl
      simpa using h0
    simpa using this
  exact ⟨World.block_lt_of_cell? W _ (hc 0 (by decide)), hc⟩

theorem wd_of_met {r : List (String × DataW Unit)} {W : World} (h : laidMet Tryz.prog (("loop.example/manyvalues/impl.deedWords", Rows.laid_loop_example_manyvalues_impl_deedWords) :: r) W) : WdAt W := by
  obtain ⟨ps, ⟨g0, t0, cs0, f0, p0, q0, hg0, ht0, hv0, hd0, _⟩, _⟩ := h
  exact dword_cells hg0 ht0 hv0 hd0

theorem er_star : "*" ++ "errors.errorString" = "*errors.errorString" := by decide
theorem er_type (u : TypeId) (h : Tryz.prog.typeName? 3 u = some "*errors.errorString") : u = 227 :=
  typeName_ptr_named (nm := "errors.errorString") (by rw [er_star]; kernel_rfl) (by kernel_rfl) (by decide) u (by rw [er_star]; exact h)
theorem er_cells : Tryz.prog.cellsOf 229 = 1 := by kernel_rfl
theorem er_cells9 : Tryz.prog.cellsOf 9 = 1 := by kernel_rfl
theorem er_iface {n : String} {g : Nat} {l : List UInt8} {r : List (String × DataW Unit)} {W : World} (h : laidMet Tryz.prog ((n, .iface "*errors.errorString" (.ptr (.agg [.lit (.string l)]))) :: r) W) (hg : Tryz.prog.globalNamed n = some g) (ht : (Tryz.prog.globals[g]?).map (·.type) = some 88) : ∃ tp p, W.cell? ⟨g, 0, none⟩ = some (.iface tp p) := by
  obtain ⟨a, s, hv, _, _, _⟩ := laid_sentinel h hg ht Tryz.underlying88 er_type Tryz.underlying227 Tryz.underlying229 rfl rfl Tryz.underlying9 er_cells er_cells9
  exact ⟨_, _, by simpa using World.var?_cell hg hv 0⟩

end Go.Proofs.YtlnffpofbfigaaaGreatDoor

/-
  From the premise that the listed variables lie as the program's text lays them (eight of them, one a table of the library held against a constant): the words of deeds, and the library's two errors.
-/
namespace Go.Proofs.YtlnffpofbfigaaaGreatDoor
open Go.ChangeShapes Go.WideShapes Go.ChangeAt Go.RowKit Go.Stop

def laid8 : List (String × DataW Unit) := [("math/bits.deBruijn32tab", Rows.laid_math_bits_deBruijn32tab), ("math/bits.deBruijn64tab", Rows.laid_math_bits_deBruijn64tab), ("internal/strconv.uint64pow10", Rows.laid_internal_strconv_uint64pow10), ("unicode/utf8.acceptRanges", Rows.laid_unicode_utf8_acceptRanges), ("strconv.ErrRange", Rows.laid_strconv_ErrRange), ("strconv.ErrSyntax", Rows.laid_strconv_ErrSyntax), ("loop.example/manyvalues/impl.deedWords", Rows.laid_loop_example_manyvalues_impl_deedWords), ("unicode/utf8.first", Rows.laid_unicode_utf8_first)]
theorem wd_of_laid8 {W : World} (h : laidMetH Tryz.prog laid8 W) : WdAt W ∧ ErAt W := by
  rw [MakeChecks.laidMetH_plain _ _ _ (by kernel_rfl)] at h
  have h3 : laidMet Tryz.prog _ W := h.tail.tail.tail.tail
  exact ⟨wd_of_met h3.tail.tail, er_iface h3.tail (by kernel_rfl) (by kernel_rfl), er_iface h3 (by kernel_rfl) (by kernel_rfl)⟩

end Go.Proofs.YtlnffpofbfigaaaGreatDoor

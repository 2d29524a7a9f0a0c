/-
  A purse of the document, compared with itself, is equal.
-/
import Derived.Test.YtllncnnigjgadaaGreatPI
import Derived.Test.YtllncnnigjgadaaGreatDDx
import Derived.Test.YtllncnnigjgadaaGreatLAx
import Derived.Test.YtllncnnigjgadaaGreatOBx
import Derived.Test.YtllncnnigjgadaaGreatPAx
import Derived.Test.YtllncnnigjgadaaGreatPBx
import Derived.Test.YtllncnnigjgadaaGreatPCx
import Derived.Test.YtllncnnigjgadaaGreatPDx
import Derived.Test.YtllncnnigjgadaaGreatPGx
import Derived.Test.YtllncnnigjgadaaGreatRBx
import Derived.Test.YtllncnnigjgadaaGreatSXx
namespace Go.Proofs.YtllncnnigjgadaaGreat
open Go.RowKit

theorem fTree6 : (Tryz.prog.fieldsOf 38).toList.map (fun f => (f.name == "_", f.type, f.offset)) = [(false, 29, 0), (false, 30, 16), (false, 3, 48), (false, 3, 49)] := by kernel_rfl
theorem fPurse6 : (Tryz.prog.fieldsOf 40).toList.map (fun f => (f.name == "_", f.type, f.offset)) = [(false, 38, 0), (false, 3, 50), (false, 3, 51), (false, 3, 52)] := by kernel_rfl
theorem uTree6 : Tryz.prog.underlying 38 = some (.struct (Tryz.prog.fieldsOf 38)) := by kernel_rfl
theorem uPurse6 : Tryz.prog.underlying 40 = some (.struct (Tryz.prog.fieldsOf 40)) := by kernel_rfl
theorem eqTree6_same (d : Nat) (I seed : List UInt8) (z y : Int) (hI : I.length = 16) (hs : seed.length = 32) (w : World) : (Op.equalIn (d + 3) 38 (.agg (tcs I seed z y).toArray) (.agg (tcs I seed z y).toArray)).run Tryz.prog w = .ok true w := by
  rw [run_equalIn_struct w (d + 2) _ _ _ uTree6 (by kernel_rfl)]
  obtain ⟨i0, hi, _⟩ := info_parts info5
  refine eqFields_same _ _ _ _ (fun f hf => ?_)
  obtain ⟨b, hm⟩ := field_of fTree6 hf
  simp only [List.mem_cons, Prod.mk.injEq, List.not_mem_nil, or_false] at hm
  rcases hm with ⟨-, h1, h2⟩ | ⟨-, h1, h2⟩ | ⟨-, h1, h2⟩ | ⟨-, h1, h2⟩
  · rw [h1, h2]
    refine ⟨_, run_part_agg 29 _ 16 0 _ (bys I) tu22 rfl s22 ?_ w, ?_⟩
    · rw [List.drop_zero]; unfold tcs; rw [List.take_append_of_le_length (by rw [bys_length]; omega), List.take_of_length_le (by rw [bys_length]; omega)]
    · rw [show d + 2 = (d + 1) + 1 from rfl, run_equalIn_array w (d + 1) _ _ tu22 hi, c5]
      exact eqItems_same w d 5 .u8 Tryz.underlying5 (bys I) (bys_ints I) _ (fun j hj => by rw [bys_length, hI]; simpa using hj)
  · rw [h1, h2]
    refine ⟨_, run_part_agg 30 _ 32 16 _ (bys seed) tu24 rfl s24 ?_ w, ?_⟩
    · unfold tcs; rw [List.drop_append, List.drop_of_length_le (by rw [bys_length]; omega), bys_length, hI, Nat.sub_self, List.drop_zero, List.nil_append, List.take_append_of_le_length (by rw [bys_length]; omega), List.take_of_length_le (by rw [bys_length]; omega)]
    · rw [show d + 2 = (d + 1) + 1 from rfl, run_equalIn_array w (d + 1) _ _ tu24 hi, c5]
      exact eqItems_same w d 5 .u8 Tryz.underlying5 (bys seed) (bys_ints seed) _ (fun j hj => by rw [bys_length, hs]; simpa using hj)
  · rw [h1, h2]
    exact ⟨_, run_part_int 3 .i64 48 _ _ Tryz.underlying3 (tcs_z I seed z y hI hs) w, eqInt_same _ _ _ _ Tryz.underlying3 w⟩
  · rw [h1, h2]
    exact ⟨_, run_part_int 3 .i64 49 _ _ Tryz.underlying3 (tcs_y I seed z y hI hs) w, eqInt_same _ _ _ _ Tryz.underlying3 w⟩
theorem eqPurse6_same (I seed : List UInt8) (z y n m s : Int) (hI : I.length = 16) (hs : seed.length = 32) (w : World) : (Op.equalIn 10000 40 (.agg (pcs I seed z y n m s).toArray) (.agg (pcs I seed z y n m s).toArray)).run Tryz.prog w = .ok true w := by
  rw [show 10000 = 9999 + 1 from rfl, run_equalIn_struct w 9999 _ _ _ uPurse6 (by kernel_rfl)]
  refine eqFields_same _ _ _ _ (fun f hf => ?_)
  obtain ⟨b, hm⟩ := field_of fPurse6 hf
  simp only [List.mem_cons, Prod.mk.injEq, List.not_mem_nil, or_false] at hm
  rcases hm with ⟨-, h1, h2⟩ | ⟨-, h1, h2⟩ | ⟨-, h1, h2⟩ | ⟨-, h1, h2⟩
  · rw [h1, h2]
    obtain ⟨d, hu, hd⟩ := rowTree5
    refine ⟨_, run_part_agg 38 d 50 0 _ (tcs I seed z y) hu hd sTree5 ?_ w, eqTree6_same 9996 I seed z y hI hs w⟩
    rw [List.drop_zero]; unfold pcs; rw [List.take_append_of_le_length (by rw [tcs_length I seed z y hI hs]; omega), List.take_of_length_le (by rw [tcs_length I seed z y hI hs]; omega)]
  · rw [h1, h2]
    exact ⟨_, run_part_int 3 .i64 50 _ _ Tryz.underlying3 (pcs_n I seed z y n m s hI hs) w, eqInt_same _ _ _ _ Tryz.underlying3 w⟩
  · rw [h1, h2]
    exact ⟨_, run_part_int 3 .i64 51 _ _ Tryz.underlying3 (pcs_m I seed z y n m s hI hs) w, eqInt_same _ _ _ _ Tryz.underlying3 w⟩
  · rw [h1, h2]
    exact ⟨_, run_part_int 3 .i64 52 _ _ Tryz.underlying3 (pcs_s I seed z y n m s hI hs) w, eqInt_same _ _ _ _ Tryz.underlying3 w⟩

theorem gPurse6 : Tryz.prog.eqGuardType Tryz.prog.depth 40 = false := by kernel_rfl
end Go.Proofs.YtllncnnigjgadaaGreat

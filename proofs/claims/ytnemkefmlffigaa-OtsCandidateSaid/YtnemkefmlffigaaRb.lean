/-
  The document's own layer 4: a key as the document's, Long, Type and Secret, for every input.
-/
import Derived.Test.YtnemkefmlffigaaRa
namespace Go.Proofs.Ytnemkefmlffigaa
open Go.RowKit

theorem list_as (l : List UInt8) (n : Nat) (h : l.length = n) : l = (List.range n).map fun i => l.getD i 0 := by
  subst h
  refine List.ext_getElem (by simp) (fun i h1 h2 => ?_)
  simp [h1]
theorem built_key0 (f g : Nat → UInt8) (q z : Int) : Try.prog.built 67 [(0, .agg (bys ((List.range 16).map f)).toArray), (1, .int .u32 q), (2, .agg (bys ((List.range 32).map g)).toArray), (3, .int .i64 z)] = some (bys ((List.range 16).map f) ++ (Value.int .u32 q :: (bys ((List.range 32).map g) ++ [Value.int .i64 z]))).toArray := by kernel_rfl
theorem built_key (I seed : List UInt8) (q : Nat) (z : Int) (hI : I.length = 16) (hs : seed.length = 32) : Try.prog.built 67 [(0, .agg (bys I).toArray), (1, .int .u32 (q : Int)), (2, .agg (bys seed).toArray), (3, .int .i64 z)] = some (kcs I q seed z).toArray := by
  rw [list_as I 16 hI, list_as seed 32 hs]
  exact built_key0 _ _ _ _
theorem zi32 : ∃ z0 : List Value, (Try.prog.info? 67).map (·.zero) = some (some (.agg z0.toArray)) ∧ z0.length = 50 := ⟨bys (List.replicate 16 0) ++ (.int .u32 0 :: (bys (List.replicate 32 0) ++ [.int .i64 0])), by kernel_rfl, by decide⟩
theorem kcs_one (I seed : List UInt8) (q : Nat) (z : Int) : (kcs I q seed z).toArray.all (·.oneCell') = true := by
  rw [Array.all_eq_true_iff_forall_mem]
  intro v hv
  simp only [kcs, List.mem_toArray, List.mem_append, List.mem_cons, List.not_mem_nil, or_false] at hv
  rcases hv with h | h | h | h
  · exact bys_one _ _ h
  · subst h; rfl
  · exact bys_one _ _ h
  · subst h; rfl
theorem kcs_rangeS {w : World} {g : Nat} {I seed : List UInt8} {q : Nat} {z : Int} {t : TypeId} (h : Blk w g (kcs I q seed z) t) (hI : I.length = 16) : w.rangeAt g 17 (bys seed) := fun j v hv => by
  have hj : j < (bys seed).length := (List.getElem?_eq_some_iff.1 hv).1
  rw [h.cell]
  unfold kcs
  rw [List.getElem?_append_right (by rw [bys_length, hI]; omega), bys_length, hI, List.getElem?_cons, if_neg (by omega), List.getElem?_append_left (by omega), show 17 + j - 16 - 1 = j by omega]
  exact hv

theorem ret_blkU {P : Program} {fn : Func} {p : Tmp} {ty : TypeId} (h : fn.results = #[.cell p ty]) (tmps : Array Value) (w : World) (g : Nat) (t : TypeId) (cs : List Value)
    (hp : tmps.getD p undef = .pointer (some ⟨g, 0, none⟩)) (hb : Blk w g cs t) (d : TypeDesc) (hu : P.underlying ty = some d) (hd : d.isRow = true) (hi : (P.info? ty).map (·.size) = some cs.length) :
    (results fn tmps).run P w = .ok (.agg cs.toArray) w :=
  results_cell_row h tmps w g t cs.toArray (0, 0) d hp hb hu (by cases d <;> first | rfl | cases hd) (by simpa using hi)


set_option maxHeartbeats 400000 in
theorem refLong_yes (k : Nat) (w : World) (hk : Wd k) : Calls Try.prog 29 #[.int .i64 (k : Int)] w (Drew (.tuple #[.int .i64 (lng k : Nat), .int .i64 0]) w) := by
  have HK := Lib.hid hk
  have hm := mny_le k hk
  obtain ⟨S, hS⟩ : ∃ S, mny k = S := ⟨_, rfl⟩
  obtain ⟨L, hL⟩ : ∃ L, lng k = L := ⟨_, rfl⟩
  have hSL : 36 + 32 * S = L := by rw [← hS, ← hL]; unfold lng; omega
  have hS0 : 0 < S := by rw [← hS]; rcases hk with rfl | rfl | rfl | rfl <;> decide
  have HSE := Lib.hid hS
  have z0 : ((S : Int) == 0) = false := by simp; omega
  rw [hL]
  rw [hS] at hm
  clear hk hS hL
  go_enter Try.func29, Try.ntmps29
  go_wp2_with fail
  refine (many_yes k _ HK.out).mono ?_
  rintro e w1 ⟨rfl, nd, rfl⟩
  rw [HSE.out]
  go_wp2
  go_ret2
  have e1 : 36 + 32 * (S : Int) = (L : Int) := by omega
  exact ⟨by rw [← e1]; rfl, nd, rfl⟩
set_option maxHeartbeats 400000 in
theorem refLong_no (z : Int) (w : World) (hz : NoW z) : Calls Try.prog 29 #[.int .i64 z] w (Drew (.tuple #[.int .i64 0, .int .i64 1]) w) := by
  have HZ := Lib.hid hz
  clear hz
  go_enter Try.func29, Try.ntmps29
  go_wp2_with fail
  refine (many_no z _ HZ.out).mono ?_
  rintro e w1 ⟨rfl, nd, rfl⟩
  go_wp2
  go_ret2
  exact ⟨rfl, nd, rfl⟩
set_option maxHeartbeats 400000 in
theorem refType_yes (k : Nat) (w : World) (hk : Wd k) : Calls Try.prog 60 #[.int .i64 (k : Int)] w (Just (.tuple #[.int .u32 (typ k : Nat), .int .i64 0]) w) := by
  rcases hk with rfl | rfl | rfl | rfl
  all_goals
    go_enter Try.func60, Try.ntmps60
    go_wp2
    go_ret2
    exact ⟨rfl, rfl⟩
set_option maxHeartbeats 400000 in
theorem refType_no (z : Int) (w : World) (hz : NoW z) : Calls Try.prog 60 #[.int .i64 z] w (Just (.tuple #[.int .u32 0, .int .i64 1]) w) := by
  obtain ⟨h1, h2, h4, h8⟩ := hz
  go_enter Try.func60, Try.ntmps60
  go_wp2
  go_ret2
  exact ⟨rfl, rfl⟩




end Go.Proofs.Ytnemkefmlffigaa

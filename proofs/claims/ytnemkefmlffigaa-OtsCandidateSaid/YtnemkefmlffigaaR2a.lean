/-
  The document's own block on a state: of every block of 64 bytes; of other bytes there is none.
-/
import Derived.Test.YtnemkefmlffigaaR1
namespace Go.Proofs.Ytnemkefmlffigaa
open Go.RowKit

theorem ad_comm (x y : Nat) : ad x y = ad y x := by unfold ad; rw [Nat.add_comm]
def mix (F V : List Nat) (i : Nat) : List Nat := F.take i ++ V.drop i
theorem mix_zero (F V : List Nat) : mix F V 0 = V := by simp [mix]
theorem mix_full (F V : List Nat) (hF : F.length = 8) (hV : V.length = 8) : mix F V 8 = F := by simp [mix, hF, hV, List.take_of_length_le, List.drop_of_length_le]
theorem mix_length (F V : List Nat) (i : Nat) (hF : F.length = 8) (hV : V.length = 8) (hi : i ≤ 8) : (mix F V i).length = 8 := by simp [mix, hF, hV]; omega
theorem mix_at (F V : List Nat) (i : Nat) (hF : F.length = 8) (hi : i < 8) : (mix F V i).getD i 0 = V.getD i 0 := by
  have : (F.take i).length = i := by simp [hF]; omega
  simp [mix, List.getElem?_append, this]
theorem mix_set (F V : List Nat) (i : Nat) (hF : F.length = 8) (hV : V.length = 8) (hi : i < 8) : (mix F V i).set i (F.getD i 0) = mix F V (i + 1) := by
  have h1 : (F.take i).length = i := by simp [hF]; omega
  have h2 : F.take (i + 1) = F.take i ++ [F.getD i 0] := take_snoc' F i (by omega)
  have h3 : V.drop i = V.getD i 0 :: V.drop (i + 1) := by rw [List.drop_eq_getElem_cons (by omega)]; simp [show i < V.length by omega]
  unfold mix
  rw [List.set_append, if_neg (by omega), h1, Nat.sub_self, h3, h2, List.append_assoc]
  rfl
theorem ws_set (l : List Nat) (j x : Nat) : (ws l).set j (.int .u32 (x : Int)) = ws (l.set j x) := by simp [ws, List.map_set]

theorem fin_at (s V : List Nat) (i : Nat) (hi : i < 8) : (fin (St.of s) (St.of V)).getD i 0 = ad (V.getD i 0) (s.getD i 0) := by
  have : i = 0 ∨ i = 1 ∨ i = 2 ∨ i = 3 ∨ i = 4 ∨ i = 5 ∨ i = 6 ∨ i = 7 := by omega
  rcases this with rfl | rfl | rfl | rfl | rfl | rfl | rfl | rfl <;> (rw [ad_comm]; rfl)
theorem of_l (q : St) : St.of q.l = q := by cases q; rfl
theorem ch_int (x y z : Nat) (hx : x < 4294967296) (hy : y < 4294967296) (hz : z < 4294967296) : bits .or .u32 (bits .and .u32 (x : Int) (y : Int)) (bits .and .u32 (bits .xor .u32 (x : Int) 4294967295) (z : Int)) = ((chs x y z : Nat) : Int) := by
  have hm : (4294967295 : Int) = ((4294967295 : Nat) : Int) := rfl
  rw [hm, u32_xor_nat _ _ hx (by omega), u32_and_nat _ _ hx hy, u32_and_nat _ _ (xor32 hx (by omega)) hz, u32_or_nat _ _ (and32 hy) (and32 hz), Nat.xor_comm]
  rfl
theorem mj_int (x y z : Nat) (hx : x < 4294967296) (hy : y < 4294967296) (hz : z < 4294967296) : bits .or .u32 (bits .or .u32 (bits .and .u32 (x : Int) (y : Int)) (bits .and .u32 (x : Int) (z : Int))) (bits .and .u32 (y : Int) (z : Int)) = ((mjr x y z : Nat) : Int) := by
  rw [u32_and_nat _ _ hx hy, u32_and_nat _ _ hx hz, u32_and_nat _ _ hy hz, u32_or_nat _ _ (and32 hy) (and32 hz), u32_or_nat _ _ (or32 (and32 hy) (and32 hz)) (and32 hz)]
  rfl

theorem agg8_one (k : IntKind) (x0 x1 x2 x3 x4 x5 x6 x7 : Int) : ([Value.int k x0, .int k x1, .int k x2, .int k x3, .int k x4, .int k x5, .int k x6, .int k x7] : List Value).toArray.all (·.oneCell') = true := by
  rw [Array.all_eq_true_iff_forall_mem]
  intro v hv
  simp only [List.mem_toArray, List.mem_cons, List.not_mem_nil, or_false] at hv
  rcases hv with rfl | rfl | rfl | rfl | rfl | rfl | rfl | rfl <;> rfl

/-- What the rounds keep. -/
def Rows5 (w : World) (s W V : List Nat) (gw gk gs : Nat) (w' : World) : Prop :=
  Blk w' w.heap.size (ws s) 121 ∧ Blk w' (w.heap.size + 1) z8 121 ∧ Blk w' gw (ws W) 133 ∧ Blk w' gk (ws kw) 133 ∧ Blk w' gs (ws V) 121 ∧ Below w.heap.size w w'
theorem Rows5.drewN {w w' : World} {s W V : List Nat} {gw gk gs : Nat} (h : Rows5 w s W V gw gk gs w') (n : Nat) : Rows5 w s W V gw gk gs (w'.drewN n) := ⟨h.1, h.2.1, h.2.2.1, h.2.2.2.1, h.2.2.2.2.1, Below.drewN' h.2.2.2.2.2⟩
theorem Rows5.drew {w w' : World} {s W V : List Nat} {gw gk gs : Nat} (h : Rows5 w s W V gw gk gs w') : Rows5 w s W V gw gk gs w'.drew := ⟨h.1, h.2.1, h.2.2.1, h.2.2.2.1, h.2.2.2.2.1, h.2.2.2.2.2.drew⟩

end Go.Proofs.Ytnemkefmlffigaa

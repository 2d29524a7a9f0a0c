/-
  bits.RotateLeft32 and what is made of it (rotated, the four sums, choose, majority), at every word; the document's own 'turned' too.
  The round words, the first state, and the document's own round words, as the program answers them: for every world.
  The message schedule of every block of 64 bytes, as the program lays it.
  A block on a state: for every state, schedule and round words the program answers the eight words that the document tells.
  The bytes of a state, and the padding of every number of bytes, as the program lays them.
  The padding of every number of bytes, as the program lays it: in memory of the call's own.
  absorb: for every state and all bytes, the state behind their whole blocks, and the bytes that are left.
  finish and Sum: for all bytes the program answers their hash.
  Sum, Round, Schedule and Block: for every input the program answers as the document says.
  Arrays of integers are equal to themselves: the hashes, schedules and states of package sha.
-/
import Derived.Test.YteckenlbelgknaaChecked
import Derived.Test.YteckenlbelgknaaPs
import Derived.WalkKit
import Derived.WalkLawsBesides
import Derived.Outline
import Derived.Lib.Hide
import Derived.Deep.QuietTactic
import Derived.BigQuiet
import Derived.Deep.Draws
import Derived.Test.YteckenlbelgknaaMs
import Derived.StillTailTactics
import Derived.Lib.MinMax
import Derived.ChangeKeysEq
namespace Go.Proofs.Yteckenlbelgknaa
open Go.RowKit

theorem ret_int {k : IntKind} {a b : Int} (h : a = b) : Ending.returned (.int k a) = .returned (.int k b) := by rw [h]

theorem neg_and (k : Nat) (h0 : 0 < k) (h1 : k < 32) : bits .and .u64 (IntKind.u64.wrap (-(k : Int))) 31 = ((32 - k : Nat) : Int) := by
  have e : IntKind.u64.wrap (-(k : Int)) = ((18446744073709551616 - k : Nat) : Int) := by rw [IntKind.wrap_u64]; omega
  rw [e]
  have := u64_and_nat (18446744073709551616 - k) 31 (by omega) (by omega)
  rw [show ((31 : Nat) : Int) = 31 from rfl] at this
  rw [this, nat_mask5]
  congr 1
  omega

theorem rot_int (x j k : Nat) (hx : x < 4294967296) (hj : 32 - k = j) (hk : k = 32 - j) : bits .or .u32 ((x : Int) * 2 ^ j % 4294967296) ((x : Int) / 2 ^ (32 - j)) = ((rotr x k : Nat) : Int) := by
  have e1 : (x : Int) * 2 ^ j % 4294967296 = ((x * 2 ^ j % 4294967296 : Nat) : Int) := by simp
  have e2 : (x : Int) / 2 ^ (32 - j) = ((x / 2 ^ (32 - j) : Nat) : Int) := by simp
  rw [e1, e2, u32_or_nat _ _ (Nat.mod_lt _ (by decide)) (Nat.lt_of_le_of_lt (Nat.div_le_self _ _) hx)]
  unfold rotr
  rw [hj, hk]
theorem rot_int' (x k : Nat) (hx : x < 4294967296) : bits .or .u32 ((x : Int) / 2 ^ k) ((x : Int) * 2 ^ (32 - k) % 4294967296) = ((rotr x k : Nat) : Int) := by
  have e1 : (x : Int) * 2 ^ (32 - k) % 4294967296 = ((x * 2 ^ (32 - k) % 4294967296 : Nat) : Int) := by simp
  have e2 : (x : Int) / 2 ^ k = ((x / 2 ^ k : Nat) : Int) := by simp
  rw [e1, e2, u32_or_nat _ _ (Nat.lt_of_le_of_lt (Nat.div_le_self _ _) hx) (Nat.mod_lt _ (by decide)), Nat.or_comm]
  rfl



theorem sm_int (a b x d : Nat) (hx : x < 4294967296) (ha : a < 4294967296) (hb : b < 4294967296) : bits .xor .u32 (bits .xor .u32 (a : Int) (b : Int)) ((x : Int) / (d : Int)) = ((a ^^^ b ^^^ x / d : Nat) : Int) := by
  have e2 : (x : Int) / (d : Int) = ((x / d : Nat) : Int) := by simp
  rw [u32_xor_nat _ _ ha hb, e2, u32_xor_nat _ _ (xor32 ha hb) (Nat.lt_of_le_of_lt (Nat.div_le_self _ _) hx)]
theorem bg_int (a b c : Nat) (ha : a < 4294967296) (hb : b < 4294967296) (hc : c < 4294967296) : bits .xor .u32 (bits .xor .u32 (a : Int) (b : Int)) (c : Int) = ((a ^^^ b ^^^ c : Nat) : Int) := by
  rw [u32_xor_nat _ _ ha hb, u32_xor_nat _ _ (xor32 ha hb) hc]



end Go.Proofs.Yteckenlbelgknaa

namespace Go.Proofs.Yteckenlbelgknaa
open Go.RowKit

/-- The call answers the array of these cells, and no old memory has changed. -/
def Arr (cs : List Value) (w : World) (e : Ending) (w' : World) : Prop := e = .returned (.agg cs.toArray) ∧ Below w.heap.size w w'

/-- The zero values' cells. -/
def z8 : List Value := ws (List.replicate 8 0)
def z64 : List Value := ws (List.replicate 64 0)
def z32 : List Value := bys (List.replicate 32 0)
theorem z8_length : z8.length = 8 := by decide
theorem z64_length : z64.length = 64 := by decide
theorem z32_length : z32.length = 32 := by decide
theorem s27 : (Try.prog.info? 23).map (·.size) = some 1 := by kernel_rfl
def ints (l : List Nat) : List Int := l.map fun (n : Nat) => (n : Int)
theorem ints_ws (l : List Nat) : (ints l).map (Value.int .u32) = ws l := by simp [ints, ws]
theorem ints_length (l : List Nat) : (ints l).length = l.length := by simp [ints]

end Go.Proofs.Yteckenlbelgknaa

namespace Go.Proofs.Yteckenlbelgknaa
open Go.RowKit

/-- The cells of a schedule whose first k words are laid. -/
def rowk (b : List UInt8) (k : Nat) : List Value := ws (sch b k ++ List.replicate (64 - k) 0)
theorem rowk_zero (b : List UInt8) : rowk b 0 = z64 := rfl
theorem rowk_full (b : List UInt8) : rowk b 64 = ws (sch b 64) := by simp [rowk]
theorem rowk_length (b : List UInt8) (k : Nat) (h : k ≤ 64) : (rowk b k).length = 64 := by simp [rowk, ws_length, sch_length]; omega
theorem rowk_at (b : List UInt8) (k j : Nat) (h : j < k) : (rowk b k)[j]? = some (.int .u32 ((sch b k).getD j 0 : Nat)) := by
  have hj : j < (sch b k).length := by rw [sch_length]; exact h
  rw [rowk, ws_append, List.getElem?_append_left (by rw [ws_length]; exact hj), ws_at _ _ hj]
  simp [hj]
theorem rowk_some (b : List UInt8) (k j : Nat) (hk : k ≤ 64) (h : j < 64) : ∃ v, (rowk b k)[j]? = some v := by
  exact ⟨_, List.getElem?_eq_getElem (by rw [rowk_length b k hk]; exact h)⟩
theorem rowk_set (b : List UInt8) (k : Nat) (h : k < 64) : (rowk b k).set k (.int .u32 ((if k < 16 then wd b k else nx (sch b k) k : Nat) : Int)) = rowk b (k + 1) := by
  obtain ⟨m, hm⟩ : ∃ m, 64 - k = m + 1 := ⟨63 - k, by omega⟩
  have hm' : 64 - (k + 1) = m := by omega
  have hl : (ws (sch b k)).length = k := by rw [ws_length, sch_length]
  unfold rowk
  rw [hm, hm', ws_append, ws_append, sch, ws_append, List.set_append, if_neg (by omega), hl, Nat.sub_self, List.append_assoc]
  rfl

theorem ad4_int (a b c d : Nat) : ((a : Int) + b + c + d) % 4294967296 = ((ad (ad (ad a b) c) d : Nat) : Int) := by unfold ad; omega
theorem wd_int (B0 B1 B2 B3 : Nat) (y0 : B0 < 256) (y1 : B1 < 256) (y2 : B2 < 256) (y3 : B3 < 256) :
    bits .or .u32 (bits .or .u32 (bits .or .u32 (IntKind.u32.wrap (IntKind.u32.wrap (B0 : Int) * 16777216)) (IntKind.u32.wrap (IntKind.u32.wrap (B1 : Int) * 65536))) (IntKind.u32.wrap (IntKind.u32.wrap (B2 : Int) * 256))) (IntKind.u32.wrap (B3 : Int))
      = ((B0 * 16777216 ||| B1 * 65536 ||| B2 * 256 ||| B3 : Nat) : Int) := by
  have r0 : IntKind.u32.wrap (IntKind.u32.wrap (B0 : Int) * 16777216) = ((B0 * 16777216 : Nat) : Int) := by rw [IntKind.wrap_u32', IntKind.wrap_u32']; omega
  have r1 : IntKind.u32.wrap (IntKind.u32.wrap (B1 : Int) * 65536) = ((B1 * 65536 : Nat) : Int) := by rw [IntKind.wrap_u32', IntKind.wrap_u32']; omega
  have r2 : IntKind.u32.wrap (IntKind.u32.wrap (B2 : Int) * 256) = ((B2 * 256 : Nat) : Int) := by rw [IntKind.wrap_u32', IntKind.wrap_u32']; omega
  have r3 : IntKind.u32.wrap (B3 : Int) = (B3 : Int) := by rw [IntKind.wrap_u32']; omega
  rw [r0, r1, r2, r3, u32_or_nat _ _ (by omega) (by omega), u32_or_nat _ _ (or32 (by omega) (by omega)) (by omega), u32_or_nat _ _ (or32 (or32 (by omega) (by omega)) (by omega)) (by omega)]

end Go.Proofs.Yteckenlbelgknaa

namespace Go.Proofs.Yteckenlbelgknaa
open Go.RowKit

theorem ws_cell (l : List Nat) (j : Nat) (h : j < l.length) : (ws l)[j]? = some (.int .u32 ((l.getD j 0 : Nat) : Int)) := by rw [ws_at l j h]; simp [h]

end Go.Proofs.Yteckenlbelgknaa

namespace Go.Proofs.Yteckenlbelgknaa
open Go.RowKit

/-- 32 bytes whose first are these. -/
def jrow (l : List UInt8) : List Value := bys (l ++ List.replicate (32 - l.length) 0)
theorem jrow_nil : jrow [] = z32 := rfl
theorem jrow_length (l : List UInt8) (h : l.length ≤ 32) : (jrow l).length = 32 := by simp [jrow, bys_length]; omega
theorem jrow_full (l : List UInt8) (h : l.length = 32) : jrow l = bys l := by simp [jrow, h]
theorem jrow_set (l : List UInt8) (b : UInt8) (h : l.length < 32) : (jrow l).set l.length (.int .u8 (b.toNat : Int)) = jrow (l ++ [b]) := by
  obtain ⟨m, hm⟩ : ∃ m, 32 - l.length = m + 1 := ⟨31 - l.length, by omega⟩
  have hm' : 32 - (l ++ [b]).length = m := by simp; omega
  have hl : (bys l).length = l.length := bys_length l
  unfold jrow
  rw [hm, hm', bys_append, bys_append, bys_append, List.set_append, if_neg (by omega), hl, Nat.sub_self, List.append_assoc]
  rfl
theorem joinl_snoc (s : List Nat) (x : Nat) : joinl (s ++ [x]) = joinl s ++ be 4 x := by simp [joinl]
theorem take_snoc' (s : List Nat) (k : Nat) (h : k < s.length) : s.take (k + 1) = s.take k ++ [s.getD k 0] := by
  rw [List.take_succ_eq_append_getElem h]; simp [h]

/-- A cell of an array's value. -/
theorem run_index {P : Program} (t e : TypeId) (n : Nat) (kk : IntKind) (hu : P.underlying t = some (.array n e)) (hsz : (P.info? e).map (·.size) = some 1) (he : P.underlying e = some (.int kk)) (cs : List Value) (k : Nat) (hk : k < n) (v : Value) (hv : cs[k]? = some v) (w : World) :
    (Instr.index t (.agg cs.toArray) (.int .i64 (k : Int))).run P w = .ok v w := by
  have hk1 : (0 : Int) ≤ (k : Int) ∧ (k : Int) < (n : Int) := by omega
  have hsz' : (sizeOf e).run P w = .ok 1 w := by
    cases hq : P.info? e with
    | none => simp [hq] at hsz
    | some i => simp [hq] at hsz; simp [sizeOf, typeInfo, hq, hsz]
  have hagg : (isAgg e).run P w = .ok false w := by
    unfold isAgg
    rw [Sem.run_bind, run_underlying he w]
    rfl
  unfold Instr.index
  simp only [asIntOf, Sem.run_bind, Sem.run_pure, Result.andThen_ok, run_underlying hu w]
  simp [hk1, hsz', part, hagg, hv, Result.andThen, Sem.run_bind]
/-- Byte j of a word's four. -/
theorem be4_snoc (x j : Nat) (hj : j < 4) : (be 4 x).take (j + 1) = (be 4 x).take j ++ [UInt8.ofNat (x / 256 ^ (3 - j))] := by
  have h := be_take 4 (3 - j) x (by omega)
  rw [show 4 - (3 - j) = j + 1 by omega, show 4 - (3 - j + 1) = j by omega] at h
  exact h
theorem be4_int (x j : Nat) (hj : j < 4) : (x : Int) / 2 ^ (24 - 8 * j) % 256 = ((UInt8.ofNat (x / 256 ^ (3 - j))).toNat : Int) := by
  have h := byte_shift (x : Int) (3 - j) (by omega)
  rw [show 8 * (3 - j) = 24 - 8 * j by omega] at h
  simpa using h
theorem jrow_next (l : List UInt8) (x j n : Nat) (hj : j < 4) (hn : l.length + j = n) (h : n < 32) : (jrow (l ++ (be 4 x).take j)).set n (.int .u8 ((x : Int) / 2 ^ (24 - 8 * j) % 256)) = jrow (l ++ (be 4 x).take (j + 1)) := by
  have hl : (l ++ (be 4 x).take j).length = n := by rw [List.length_append, List.length_take, be_length]; omega
  rw [be4_int x j hj, be4_snoc x j hj, ← List.append_assoc, ← jrow_set _ _ (by omega), hl]
theorem tu27 : Try.prog.underlying 23 = some (.int .u32) := by kernel_rfl

end Go.Proofs.Yteckenlbelgknaa

namespace Go.Proofs.Yteckenlbelgknaa
open Go.RowKit

theorem info5 : (Try.prog.info? 5).map (fun i => (i.zero, i.size, i.bytes)) = some (some (.int .u8 0), 1, 1) := by kernel_rfl

/-- The call answers a slice of its own, from block 'base' on, with the bytes l; nothing below 'base' has changed. -/
def Gives (base : Nat) (l : List UInt8) (w : World) (e : Ending) (w' : World) : Prop := ∃ v, e = .returned v ∧ Own 5 w' base v l ∧ Below base w w'

/-- Padding whose last k bytes are laid. -/
def pr (Z C k : Nat) : List UInt8 := 128 :: (List.replicate (Z + 8 - k) 0 ++ be k C)
theorem pr_length (Z C k : Nat) (h : k ≤ 8) : (pr Z C k).length = 9 + Z := by simp [pr, be_length]; omega
theorem pr_zero (Z C L : Nat) (h : 9 + Z = L) : (bys (List.replicate L 0)).set 0 (.int .u8 128) = bys (pr Z C 0) := by
  subst h
  rw [show 9 + Z = (Z + 8) + 1 by omega]
  simp [pr, be, bys, List.replicate_succ]
theorem pr_set (Z C k : Nat) (h : k < 8) : (bys (pr Z C k)).set (8 + Z - k) (.int .u8 ((C : Int) / 2 ^ (8 * k) % 256)) = bys (pr Z C (k + 1)) := by
  have hb := byte_shift (C : Int) k (by omega)
  rw [Int.toNat_natCast] at hb
  rw [hb]
  obtain ⟨m, hm⟩ : ∃ m, Z + 8 - k = m + 1 := ⟨Z + 7 - k, by omega⟩
  have hm2 : Z + 8 - (k + 1) = m := by omega
  have hl : (bys (List.replicate m 0)).length = m := by simp [bys]
  unfold pr
  rw [hm, hm2, show 8 + Z - k = (m + 1) by omega, List.replicate_succ', List.append_assoc, be]
  show (bys ([128] ++ (List.replicate m 0 ++ ([0] ++ be k C)))).set (m + 1) _ = bys ([128] ++ (List.replicate m 0 ++ ([UInt8.ofNat (C / 256 ^ k)] ++ be k C)))
  simp only [bys_append]
  rw [List.set_append, if_neg (by simp [bys]), show m + 1 - (bys [128]).length = m by simp [bys], List.set_append, if_neg (by omega), hl, Nat.sub_self]
  rfl
theorem pr_full (N : Nat) : pr (zn N) (N * 8 % 18446744073709551616) 8 = padl N := by simp [pr, padl]

end Go.Proofs.Yteckenlbelgknaa

namespace Go.Proofs.Yteckenlbelgknaa
open Go.RowKit

theorem chain_snoc (s : List Nat) (k : Nat) (l : List UInt8) : chain s (k + 1) l = blk (chain s k l) ((l.drop (64 * k)).take 64) := by
  rw [chain_add]; rfl

/-- absorb's answer: the state behind the whole blocks, and what reads as the bytes that are left. -/
def Absorbs (s : List Nat) (l : List UInt8) (w : World) (e : Ending) (w' : World) : Prop :=
  ∃ v, e = .returned (.tuple #[.agg (ws (chain s (l.length / 64) l)).toArray, v]) ∧ Rd w.heap.size w v (l.drop (64 * (l.length / 64))) ∧ Below w.heap.size w w'

/-- The first 64 bytes of what is read. -/
theorem Rd.head {B : Nat} {w : World} {a : Addr} {n c m : Nat} {l : List UInt8} (h : Rd B w (.slice (some a) n c) l) (hm : m ≤ n) : Rd B w (.slice (some a) m c) (l.take m) := by
  obtain ⟨A, c', hv, hc, hmx, hn, hcell⟩ := h
  injection hv with h1 h2 h3
  subst h1 h2 h3
  have hl : (l.take m).length = m := by rw [List.length_take]; omega
  refine ⟨some a, c, by rw [hl], by omega, hmx, fun h => (by cases h), fun x hx => ?_⟩
  cases hx
  refine ⟨fun h0 => (hcell a rfl).1 (by omega), fun j hj => ?_⟩
  rw [(hcell a rfl).2 j (by omega)]
  simp

end Go.Proofs.Yteckenlbelgknaa

namespace Go.Proofs.Yteckenlbelgknaa
open Go.RowKit

end Go.Proofs.Yteckenlbelgknaa

namespace Go.Proofs.Yteckenlbelgknaa
open Go.RowKit


/-- The call answers two values, and no old memory has changed. -/
def Two (x y : Value) (w : World) (e : Ending) (w' : World) : Prop := e = .returned (.tuple #[x, y]) ∧ Below w.heap.size w w'



end Go.Proofs.Yteckenlbelgknaa

namespace Go.Proofs.Yteckenlbelgknaa
open Go.RowKit

theorem eqItems_same {P : Program} (w : World) (d : Nat) (e : TypeId) (k : IntKind) (he : P.underlying e = some (.int k)) (cs : List Value) (h : ∀ v ∈ cs, ∃ z, v = .int k z) :
    ∀ is : List Nat, (∀ i ∈ is, i < cs.length) → (Op.eqItems (d + 1) e 1 cs.toArray cs.toArray is).run P w = .ok true w
  | [], _ => by simp [Op.eqItems]
  | i :: is, hi => by
    have hlt := hi i (by simp)
    obtain ⟨z, hz⟩ := h cs[i] (List.getElem_mem hlt)
    have hp : (part e cs.toArray (i * 1)).run P w = .ok (.int k z) w := by
      simp [part, isAgg, run_underlying he, List.getElem?_eq_getElem hlt, hz]
    have hq : (Op.equalIn (d + 1) e (.int k z) (.int k z)).run P w = .ok true w := by
      rw [run_equalIn_int w d e k k z z he]; simp
    simp only [Op.eqItems, Sem.run_bind, hp, hq, Result.andThen_ok]
    simpa using eqItems_same w d e k he cs h is (fun j hj => hi j (by simp [hj]))

/-- An array of integers is equal to itself. -/
theorem run_equal_same {P : Program} (t e : TypeId) (n : Nat) (k : IntKind) (i : TypeInfo) (ht : P.underlying t = some (.array n e)) (he : P.underlying e = some (.int k)) (hi : P.info? e = some i) (hc : P.cellsOf e = 1)
    (cs : List Value) (hl : cs.length = n) (h : ∀ v ∈ cs, ∃ z, v = .int k z) (w : World) : (Op.equalIn 10000 t (.agg cs.toArray) (.agg cs.toArray)).run P w = .ok true w := by
  rw [show 10000 = 9999 + 1 from rfl, run_equalIn_array w 9999 _ _ ht hi, hc]
  exact eqItems_same w 9998 e k he cs h _ (fun j hj => by rw [hl]; simpa using hj)

theorem ws_ints (l : List Nat) : ∀ v ∈ ws l, ∃ z, v = .int .u32 z := fun v hv => by
  obtain ⟨n, _, rfl⟩ := List.mem_map.1 hv; exact ⟨_, rfl⟩
theorem bys_ints (l : List UInt8) : ∀ v ∈ bys l, ∃ z, v = .int .u8 z := fun v hv => by
  obtain ⟨n, _, rfl⟩ := List.mem_map.1 hv; exact ⟨_, rfl⟩
theorem c5 : Try.prog.cellsOf 5 = 1 := by kernel_rfl
theorem c27 : Try.prog.cellsOf 23 = 1 := by kernel_rfl
theorem i27 : ∃ i, Try.prog.info? 23 = some i := by
  have h := s27
  cases hq : Try.prog.info? 23 with
  | none => rw [hq] at h; cases h
  | some i => exact ⟨i, rfl⟩

end Go.Proofs.Yteckenlbelgknaa

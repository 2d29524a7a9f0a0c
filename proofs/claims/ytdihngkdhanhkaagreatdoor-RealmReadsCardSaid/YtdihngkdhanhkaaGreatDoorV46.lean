/-
  Texts KO KI.
-/
import Derived.Deep.Strs
import Derived.Deep.Grids
import Derived.Lib.SmallJoins
import Derived.Test.YtdihngkdhanhkaaGreatDoorV09
import Derived.Test.YtdihngkdhanhkaaGreatDoorV11
import Derived.Test.YtdihngkdhanhkaaGreatDoorV30
namespace Go.Proofs.YtdihngkdhanhkaaGreatDoor
set_option maxRecDepth 100000
set_option maxHeartbeats 16000000
open Go.RowKit Go.ChangeShapes Go.WideShapes
theorem nTxK : Tryz.prog.cellsOf 9 = 1 := by kernel_rfl
theorem nInK : Tryz.prog.cellsOf 3 = 1 := by kernel_rfl
theorem nOrK : Tryz.prog.cellsOf 35 = 8 := by kernel_rfl
theorem txt_ofK (s : ByteArray) : Value.string s = txt s.data.toList := by
 cases s
 simp [txt]
theorem split8K (cs : List Value) (h : cs.length = 8) : cs = (cs.drop 0).take 1 ++ ((cs.drop 1).take 1 ++ ((cs.drop 2).take 1 ++ ((cs.drop 3).take 1 ++ ((cs.drop 4).take 1 ++ ((cs.drop 5).take 1 ++ ((cs.drop 6).take 1 ++ ((cs.drop 7).take 1))))))) := by
 match cs, h with
 | [_, _, _, _, _, _, _, _], _ => rfl
section
variable {H : Type} {enc : TypeId × Value → H} {P : Program} {w : World} {base : Nat} {spare : TypeId → Bool} {held : Bool}
theorem trod_struct8K {t : TypeId} {f0 f1 f2 f3 f4 f5 f6 f7 : Field} {fuel : Nat} {cs : List Value} {x : DataW H × List MemPlace} (ht : P.underlying t = some (.struct #[f0, f1, f2, f3, f4, f5, f6, f7])) (h : DataW.trod enc P w base spare held fuel t cs = some x) :
 ∃ y0 y1 y2 y3 y4 y5 y6 y7 n, cs.length = P.cellsOf t ∧ DataW.trod enc P w base spare held n f0.type ((cs.drop f0.offset).take (P.cellsOf f0.type)) = some y0 ∧ DataW.trod enc P w base spare held n f1.type ((cs.drop f1.offset).take (P.cellsOf f1.type)) = some y1 ∧ DataW.trod enc P w base spare held n f2.type ((cs.drop f2.offset).take (P.cellsOf f2.type)) = some y2 ∧ DataW.trod enc P w base spare held n f3.type ((cs.drop f3.offset).take (P.cellsOf f3.type)) = some y3 ∧ DataW.trod enc P w base spare held n f4.type ((cs.drop f4.offset).take (P.cellsOf f4.type)) = some y4 ∧ DataW.trod enc P w base spare held n f5.type ((cs.drop f5.offset).take (P.cellsOf f5.type)) = some y5 ∧ DataW.trod enc P w base spare held n f6.type ((cs.drop f6.offset).take (P.cellsOf f6.type)) = some y6 ∧ DataW.trod enc P w base spare held n f7.type ((cs.drop f7.offset).take (P.cellsOf f7.type)) = some y7 := by
 obtain ⟨xs, n, _, rfl, hl, hlen, hf⟩ := DataW.trod_struct ht h
 match xs, hlen with
 | [y0, y1, y2, y3, y4, y5, y6, y7], _ => exact ⟨y0, y1, y2, y3, y4, y5, y6, y7, n, hl, by simpa using hf 0 f0 rfl, by simpa using hf 1 f1 rfl, by simpa using hf 2 f2 rfl, by simpa using hf 3 f3 rfl, by simpa using hf 4 f4 rfl, by simpa using hf 5 f5 rfl, by simpa using hf 6 f6 rfl, by simpa using hf 7 f7 rfl⟩
end
section
variable {H : Type} {enc : TypeId × Value → H} {W : World} {spare : TypeId → Bool} {held : Bool}
theorem trod_orderK (fuel : Nat) (cs : List Value) (x : DataW H × List MemPlace) (h : DataW.trod enc Tryz.prog W 0 spare held fuel 35 cs = some x) : ∃ o : Or, cs = OrK.enc o ∧ fitI (oS o) := by
 obtain ⟨y0, y1, y2, y3, y4, y5, y6, y7, n, hl, t0, t1, t2, t3, t4, t5, t6, t7⟩ := trod_struct8K Tryz.underlying35 h
 simp only [nTxK, nInK] at t0 t1 t2 t3 t4 t5 t6 t7
 obtain ⟨a0, h0, _, w0⟩ := DataW.trod_int Tryz.underlying3 t0
 obtain ⟨a1, h1, _, w1⟩ := DataW.trod_int Tryz.underlying3 t1
 obtain ⟨a2, h2, _, w2⟩ := DataW.trod_int Tryz.underlying3 t2
 obtain ⟨a3, h3, _, _⟩ := DataW.trod_string Tryz.underlying9 t3
 obtain ⟨a4, h4, _, _⟩ := DataW.trod_string Tryz.underlying9 t4
 obtain ⟨a5, h5, _, w5⟩ := DataW.trod_int Tryz.underlying3 t5
 obtain ⟨a6, h6, _, w6⟩ := DataW.trod_int Tryz.underlying3 t6
 obtain ⟨a7, h7, _, w7⟩ := DataW.trod_int Tryz.underlying3 t7
 refine ⟨(a0, a1, a2, a3.data.toList, a4.data.toList, a5, a6, a7), ?_, fit_wf w6⟩
 rw [split8K cs (by rw [hl, nOrK]), h0, h1, h2, h3, h4, h5, h6, h7, txt_ofK a3, txt_ofK a4]
 rfl
theorem open_orders {r : Reach} {base : Nat} {v : Value} {d : DataW H} {p : List MemPlace}
 (hv : Value.okWide Tryz.prog W r base 38 v) (h : DataW.Trod enc Tryz.prog W 0 spare held 38 v d p) : ∃ l, RdE OrK W.heap.size W v l ∧ ∀ o ∈ l, fitI (oS o) := by
 obtain ⟨a, n, c, rfl⟩ := okWide_slice Tryz.underlying38 hv
 obtain ⟨fuel, hf⟩ := h
 obtain ⟨v', l, hc, hr, hF, _⟩ := open_rowsE (E := OrK) (F := fun o => fitI (oS o)) Tryz.underlying38 nOrK trod_orderK hf
 obtain rfl : Value.slice a n c = v' := by simpa [Value.cells] using hc
 exact ⟨l, hr, hF⟩
end
theorem nErI : Tryz.prog.cellsOf 54 = 1 := by kernel_rfl
theorem nBoI : Tryz.prog.cellsOf 4 = 1 := by kernel_rfl
theorem nNsI : Tryz.prog.cellsOf 55 = 1 := by kernel_rfl
theorem nRpI : Tryz.prog.cellsOf 57 = 6 := by kernel_rfl
theorem nNdI : Tryz.prog.cellsOf 91 = 4 := by kernel_rfl
theorem nSeI : Tryz.prog.cellsOf 105 = 3 := by kernel_rfl
theorem nWaI : Tryz.prog.cellsOf 94 = 3 := by kernel_rfl
theorem nShI : Tryz.prog.cellsOf 24 = 1 := by kernel_rfl
theorem nBkI : Tryz.prog.cellsOf 27 = 2 := by kernel_rfl
theorem nTaI : Tryz.prog.cellsOf 30 = 1 := by kernel_rfl
theorem nR1I : Tryz.prog.cellsOf 22 = 1 := by kernel_rfl
theorem nR2I : Tryz.prog.cellsOf 25 = 1 := by kernel_rfl
theorem nR3I : Tryz.prog.cellsOf 28 = 1 := by kernel_rfl
theorem nR4I : Tryz.prog.cellsOf 31 = 1 := by kernel_rfl
theorem nRmI : Tryz.prog.cellsOf 33 = 5 := by kernel_rfl
theorem split3I (cs : List Value) (h : cs.length = 3) : cs = (cs.drop 0).take 1 ++ ((cs.drop 1).take 1 ++ (cs.drop 2).take 1) := by
 match cs, h with
 | [_, _, _], _ => rfl
theorem split4I (cs : List Value) (h : cs.length = 4) : cs = (cs.drop 0).take 1 ++ ((cs.drop 1).take 1 ++ ((cs.drop 2).take 1 ++ (cs.drop 3).take 1)) := by
 match cs, h with
 | [_, _, _, _], _ => rfl
theorem split6I (cs : List Value) (h : cs.length = 6) : cs = (cs.drop 0).take 1 ++ ((cs.drop 1).take 1 ++ ((cs.drop 2).take 1 ++ ((cs.drop 3).take 1 ++ ((cs.drop 4).take 1 ++ ((cs.drop 5).take 1))))) := by
 match cs, h with
 | [_, _, _, _, _, _], _ => rfl
theorem split5I (cs : List Value) (h : cs.length = 5) : cs = (cs.drop 0).take 1 ++ ((cs.drop 1).take 2 ++ ((cs.drop 3).take 1 ++ (cs.drop 4).take 1)) := by
 match cs, h with
 | [_, _, _, _, _], _ => rfl
theorem split2I (cs : List Value) (h : cs.length = 2) : cs = (cs.drop 0).take 1 ++ (cs.drop 1).take 1 := by
 match cs, h with
 | [_, _], _ => rfl
theorem split1I (cs : List Value) (h : cs.length = 1) : cs = (cs.drop 0).take 1 := by
 match cs, h with
 | [_], _ => rfl
section
variable {H : Type} {enc : TypeId × Value → H} {P : Program} {w : World} {base : Nat} {spare : TypeId → Bool} {held : Bool}
theorem trod_struct6I {t : TypeId} {f0 f1 f2 f3 f4 f5 : Field} {fuel : Nat} {cs : List Value} {x : DataW H × List MemPlace} (ht : P.underlying t = some (.struct #[f0, f1, f2, f3, f4, f5])) (h : DataW.trod enc P w base spare held fuel t cs = some x) :
 ∃ y0 y1 y2 y3 y4 y5 n, cs.length = P.cellsOf t ∧ DataW.trod enc P w base spare held n f0.type ((cs.drop f0.offset).take (P.cellsOf f0.type)) = some y0 ∧ DataW.trod enc P w base spare held n f1.type ((cs.drop f1.offset).take (P.cellsOf f1.type)) = some y1 ∧ DataW.trod enc P w base spare held n f2.type ((cs.drop f2.offset).take (P.cellsOf f2.type)) = some y2 ∧ DataW.trod enc P w base spare held n f3.type ((cs.drop f3.offset).take (P.cellsOf f3.type)) = some y3 ∧ DataW.trod enc P w base spare held n f4.type ((cs.drop f4.offset).take (P.cellsOf f4.type)) = some y4 ∧ DataW.trod enc P w base spare held n f5.type ((cs.drop f5.offset).take (P.cellsOf f5.type)) = some y5 := by
 obtain ⟨xs, n, _, rfl, hl, hlen, hf⟩ := DataW.trod_struct ht h
 match xs, hlen with
 | [y0, y1, y2, y3, y4, y5], _ => exact ⟨y0, y1, y2, y3, y4, y5, n, hl, by simpa using hf 0 f0 rfl, by simpa using hf 1 f1 rfl, by simpa using hf 2 f2 rfl, by simpa using hf 3 f3 rfl, by simpa using hf 4 f4 rfl, by simpa using hf 5 f5 rfl⟩
end
section
variable {H : Type} {enc : TypeId × Value → H} {W : World} {spare : TypeId → Bool} {held : Bool}
theorem trod_nodeI (fuel : Nat) (cs : List Value) (x : DataW H × List MemPlace) (h : DataW.trod enc Tryz.prog W 0 spare held fuel 91 cs = some x) : ∃ n : Nd, cs = NdK.enc n ∧ True := by
 obtain ⟨y0, y1, y2, y3, n, _, hl, t0, t1, t2, t3⟩ := Go.Joins.trod_struct4 Tryz.underlying91 h
 simp only [nTxK, nInK] at t0 t1 t2 t3
 obtain ⟨a, ha, _, _⟩ := DataW.trod_string Tryz.underlying9 t0
 obtain ⟨b, hb, _, _⟩ := DataW.trod_string Tryz.underlying9 t1
 obtain ⟨c, hc, _, _⟩ := DataW.trod_int Tryz.underlying3 t2
 obtain ⟨d, hd, _, _⟩ := DataW.trod_int Tryz.underlying3 t3
 refine ⟨(a.data.toList, b.data.toList, c, d), ?_, trivial⟩
 rw [split4I cs (by rw [hl, nNdI]), ha, hb, hc, hd, txt_ofK a, txt_ofK b]
 rfl
theorem trod_sessI (fuel : Nat) (cs : List Value) (x : DataW H × List MemPlace) (h : DataW.trod enc Tryz.prog W 0 spare held fuel 105 cs = some x) : ∃ n : Se, cs = SeK.enc n ∧ True := by
 obtain ⟨y0, y1, y2, n, _, hl, t0, t1, t2⟩ := Deep.trod_struct3 Tryz.underlying105 h
 simp only [nInK] at t0 t1 t2
 obtain ⟨a, ha, _, _⟩ := DataW.trod_int Tryz.underlying3 t0
 obtain ⟨b, hb, _, _⟩ := DataW.trod_int Tryz.underlying3 t1
 obtain ⟨c, hc, _, _⟩ := DataW.trod_int Tryz.underlying3 t2
 refine ⟨(a, b, c), ?_, trivial⟩
 rw [split3I cs (by rw [hl, nSeI]), ha, hb, hc]
 rfl
theorem trod_watchI (fuel : Nat) (cs : List Value) (x : DataW H × List MemPlace) (h : DataW.trod enc Tryz.prog W 0 spare held fuel 94 cs = some x) : ∃ n : Wa, cs = WaK.enc n ∧ True := by
 obtain ⟨y0, y1, y2, n, _, hl, t0, t1, t2⟩ := Deep.trod_struct3 Tryz.underlying94 h
 simp only [nTxK, nInK, nBoI] at t0 t1 t2
 obtain ⟨a, ha, _, _⟩ := DataW.trod_string Tryz.underlying9 t0
 obtain ⟨b, hb, _, _⟩ := DataW.trod_int Tryz.underlying3 t1
 obtain ⟨c, hc, _⟩ := DataW.trod_bool Tryz.underlying4 t2
 refine ⟨(a.data.toList, b, c), ?_, trivial⟩
 rw [split3I cs (by rw [hl, nWaI]), ha, hb, hc, txt_ofK a]
 rfl
theorem trod_strsI (fuel : Nat) (cs : List Value) (x : DataW H × List MemPlace) (h : DataW.trod enc Tryz.prog W 0 spare held fuel 55 cs = some x) :
 ∃ v ss, cs = [v] ∧ RdS W.heap.size W v ss := by
 rcases open_strings Tryz.underlying55 Tryz.underlying9 nTxK h with ⟨hcs, _⟩ | ⟨a, len, c, zs, hcs, _, hl, hm, hz, hx, hcell, hwz⟩
 ·exact ⟨_, [], hcs, RdS.nil _ _⟩
 ·have hz' : len ≤ zs.length := by
   rw [hz]
   split <;> omega
  have hlen : (zs.take len).length = len := by simp; omega
  have hread : ∀ j (h : j < (zs.take len).length), W.cell? (a.add j) = some (.string (zs.take len)[j]) := by
   intro j hj
   rw [hcell j (by omega)]
   simp [List.getD_eq_getElem?_getD, List.getElem?_eq_getElem (show j < zs.length by omega)]
  refine ⟨_, zs.take len, hcs, ⟨some a, c, by rw [hlen], by omega, hm, fun h => (by cases h), fun y hy => ?_⟩⟩
  cases hy
  refine ⟨fun h0 => ?_, hread⟩
  have := World.block_lt_of_cell? W _ (hread 0 h0)
  rwa [addr_block] at this
theorem trod_replyI (fuel : Nat) (cs : List Value) (x : DataW H × List MemPlace) (h : DataW.trod enc Tryz.prog W 0 spare held fuel 57 cs = some x) :
 ∃ r : RpV, cs = RvK.enc r ∧ ∃ ns, RdS W.heap.size W (slv r.2.2.2.2.2) ns := by
 obtain ⟨y0, y1, y2, y3, y4, y5, n, hl, t0, t1, t2, t3, t4, t5⟩ := trod_struct6I Tryz.underlying57 h
 simp only [nTxK, nInK, nErI, nNsI] at t0 t1 t2 t3 t4 t5
 obtain ⟨a0, h0, _, _⟩ := DataW.trod_int Tryz.underlying3 t0
 obtain ⟨a1, h1, _, _⟩ := DataW.trod_int Tryz.underlying3 t1
 obtain ⟨a2, h2, _, _⟩ := DataW.trod_int Tryz.underlying54 t2
 obtain ⟨a3, h3, _, _⟩ := DataW.trod_string Tryz.underlying9 t3
 obtain ⟨a4, h4, _, _⟩ := DataW.trod_int Tryz.underlying3 t4
 obtain ⟨v5, ss, h5, r5⟩ := trod_strsI _ _ _ t5
 obtain ⟨A5, c5, hv5, -⟩ := r5.toE.shape
 refine ⟨(a0, a1, a2, a3.data.toList, a4, (A5, ss.length, c5)), ?_, ss, by show RdS W.heap.size W (.slice A5 ss.length c5) ss; rw [← hv5]; exact r5⟩
 rw [split6I cs (by rw [hl, nRpI]), h0, h1, h2, h3, h4, h5, hv5, txt_ofK a3]
 rfl
theorem replies_of {B : Nat} {v : Value} {l : List RpV} (h : RdE RvK B W v l) (hn : ∀ r ∈ l, ∃ ns, RdS B W (slv r.2.2.2.2.2) ns) : ∃ m : List Rp, RdRp B W v m := by
 have key : ∀ k : List RpV, (∀ r ∈ k, ∃ ns, RdS B W (slv r.2.2.2.2.2) ns) → ∃ m : List Rp, ∃ ss : List SlT, ss.length = m.length ∧ rvs m ss = k ∧ ∀ j, j < m.length → RdS B W (slv (ss.getD j sl0)) (pN (m.getD j rp0)) := by
  intro k
  induction k with
  | nil => exact fun _ => ⟨[], [], rfl, rfl, fun j h => absurd h (Nat.not_lt_zero j)⟩
  | cons r k ih =>
    intro hk
    obtain ⟨m, ss, h1, h2, h3⟩ := ih (fun x hx => hk x (List.mem_cons_of_mem _ hx))
    obtain ⟨ns, hns⟩ := hk r (by simp)
    obtain ⟨r0, r1, r2, r3, r4, r5⟩ := r
    refine ⟨(r0, r1, r2, r3, r4, ns) :: m, r5 :: ss, by simp [h1], ?_, fun j hj => ?_⟩
    ·rw [← h2]
     rfl
    ·cases j with
     | zero => exact hns
     | succ j => exact h3 j (by simpa using hj)
 obtain ⟨m, ss, h1, h2, h3⟩ := key l hn
 exact ⟨m, ss, h1, by rw [h2]; exact h, h3⟩
theorem open_realm {r : Reach} {base : Nat} {v : Value} {d : DataW H} {p : List MemPlace}
 (hv : Value.okWide Tryz.prog W r base 33 v) (h : DataW.Trod enc Tryz.prog W 0 spare held 33 v d p) :
 ∃ (m : Rm) (vN vS vW vL : Value), v = .agg (rmc (mT m) vN vS vW vL).toArray ∧ RdRm W.heap.size W vN vS vW vL m := by
 obtain ⟨cs, rfl, hsz⟩ := agg_of Tryz.underlying33 hv
 rw [nRmI] at hsz
 obtain ⟨fuel, hf⟩ := h
 obtain ⟨y0, y1, y2, y3, n, _, hl, t0, t1, t2, t3⟩ := Go.Joins.trod_struct4 Tryz.underlying33 hf
 simp only [nShI, nBkI, nTaI, nR4I, Value.cells] at t0 t1 t2 t3
 obtain ⟨z0, n0, _, l0, u0⟩ := trod_struct1 Tryz.underlying24 t0
 obtain ⟨z1, z2, n1, _, l1, u1, u2⟩ := trod_struct2 Tryz.underlying27 t1
 obtain ⟨z3, n3, _, l3, u3⟩ := trod_struct1 Tryz.underlying30 t2
 rw [nShI] at l0
 rw [nBkI] at l1
 rw [nTaI] at l3
 simp only [nR1I, nR2I, nR3I, nInK] at u0 u1 u2 u3
 obtain ⟨vN, lN, hN, rN, _, _⟩ := open_rowsE (E := NdK) (F := fun _ => True) Tryz.underlying22 nNdI trod_nodeI u0
 obtain ⟨t, ht, _, _⟩ := DataW.trod_int Tryz.underlying3 u1
 obtain ⟨vS, lS, hS, rS, _, _⟩ := open_rowsE (E := SeK) (F := fun _ => True) Tryz.underlying25 nSeI trod_sessI u2
 obtain ⟨vW, lW, hW, rW, _, _⟩ := open_rowsE (E := WaK) (F := fun _ => True) Tryz.underlying28 nWaI trod_watchI u3
 obtain ⟨vL, lL, hL, rL, fL, _⟩ := open_rowsE (E := RvK) (F := fun r => ∃ ns, RdS W.heap.size W (slv r.2.2.2.2.2) ns) Tryz.underlying31 nRpI trod_replyI t3
 obtain ⟨m, rm⟩ := replies_of rL fL
 refine ⟨(lN, t, lS, lW, m), vN, vS, vW, vL, ?_, ⟨RdNd.ofE rN, rS, rW, rm⟩⟩
 have e : cs.toList = rmc t vN vS vW vL := by
  rw [split5I cs.toList (by simpa using hsz)]
  rw [split1I _ l0, split2I _ l1, split1I _ l3, hN, ht, hS, hW, hL]
  rfl
 rw [← e]
theorem open_ord {r : Reach} {base : Nat} {v : Value} {d : DataW H} {p : List MemPlace}
 (hv : Value.okWide Tryz.prog W r base 35 v) (h : DataW.Trod enc Tryz.prog W 0 spare held 35 v d p) : ∃ o : Or, v = .agg (orc o).toArray ∧ fitI (oS o) := by
 obtain ⟨cs, rfl, _⟩ := agg_of Tryz.underlying35 hv
 obtain ⟨fuel, hf⟩ := h
 obtain ⟨o, ho, fo⟩ := trod_orderK fuel _ _ hf
 refine ⟨o, ?_, fo⟩
 have e : cs.toList = orc o := ho
 rw [← e]
end
end Go.Proofs.YtdihngkdhanhkaaGreatDoor

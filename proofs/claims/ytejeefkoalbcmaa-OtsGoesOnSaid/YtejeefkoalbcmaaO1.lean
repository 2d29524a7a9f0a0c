/-
  Package ots, what all its hashes begin with: fourBytes, twoBytes and prefixOf, for every input.
-/
import Derived.Test.YtejeefkoalbcmaaRel
import Derived.Test.YtejeefkoalbcmaaOb3
import Derived.Test.YtejeefkoalbcmaaD7
namespace Go.Proofs.Ytejeefkoalbcmaa
open Go.RowKit

/-- What all hashes of a key begin with. -/
def pre20 (I : List UInt8) (q : Nat) : List UInt8 := I ++ be 4 q
theorem pre20_length (I : List UInt8) (q : Nat) (h : I.length = 16) : (pre20 I q).length = 20 := by simp [pre20, be_length, h]

/-- Bytes in a new block. -/
theorem Own.lit (e : TypeId) (w : World) (cs : Array Value) (n : Nat) (l : List UInt8) (hn : l.length = n) (hl : n ≤ 1000000) (h : cs = (bys l).toArray) : Own e (w.alloc (.cells cs e)) w.heap.size (.slice (some ⟨w.heap.size, 0, none⟩) n n) l := by
  subst hn h
  have := World.ownsRow_lit (base := w.heap.size) (e := e) (size := 1) w (bys l).toArray l.length (Nat.le_refl _) (by unfold maxLen; omega) (by simp [bys_length])
  unfold Own
  simpa using this
/-- An array's bytes, read where they lie. -/
theorem Rd.blk {w : World} {g B : Nat} {t : TypeId} {l : List UInt8} (n : Nat) (hn : l.length = n) (h : Blk w g (bys l) t) (hg : g < B) (hl : n ≤ 1000000) : Rd B w (.slice (some ⟨g, 0, none⟩) n n) l := by
  subst hn
  refine ⟨some ⟨g, 0, none⟩, l.length, rfl, Nat.le_refl _, by unfold maxLen; omega, fun h => (by cases h), fun a ha => ?_⟩
  cases ha
  refine ⟨fun _ => hg, fun j hj => ?_⟩
  rw [Addr.add_mid, h.cell, Nat.zero_add, bys_get l j hj]

/-- A law of an operation in a region that is walked in its order serves in one whose order is open. -/
theorem wp_of_list {P : Program} {o : Oper} {a : Act} {w : World} {K : Act → World → Prop} {Q : Exit → Act → World → Prop} (hg : o.guard = none)
    (h : wpList P #[] (fun e a w => match e with | .normal => K a w | .panic c => Q (.panic c) a w | _ => False) [o] a w) : o.wp P a w K Q := by
  unfold wpList at h
  simp only [Region.wanted, hg, if_true] at h
  rcases h with h | h
  · unfold Oper.wp at *
    generalize (execOp a.eval o).run P w = r at *
    cases r with
    | ok n w' =>
      cases n <;> simp only [Oper.upon] at h ⊢ <;>
        first
          | exact h
          | exact Calls.mono h (fun e w'' he => by cases e <;> first | exact he | (obtain ⟨_, _, hf⟩ := he; exact hf.elim))
          | exact Rows.mono h (fun _ _ he => he)
    | halt x w' => cases x <;> simp only [Oper.upon] at h ⊢ <;> exact h
  · obtain ⟨_, _, _, hf⟩ := h
    exact hf.elim

set_option maxHeartbeats 400000 in
theorem fourBytes_any (q : Nat) (w : World) (hq : q < 4294967296) : Calls Try.prog 38 #[.int .u32 (q : Int)] w (Gives w.heap.size (be 4 q) w) := by
  have zq : (q : Int) < 4294967296 := by omega
  go_enter Try.func38, Try.ntmps38
  go_wp2
  go_ret
  refine ⟨_, rfl, Own.lit 5 w _ 4 (be 4 q) (be_length _ _) (by omega) ?_, (Below.refl _ _).alloc (Nat.le_refl _) _⟩
  simp [be, bys]
  omega

set_option maxHeartbeats 400000 in
theorem twoBytes_any (i : Nat) (w : World) (hi : i < 65536) : Calls Try.prog 51 #[.int .i64 (i : Int)] w (Gives w.heap.size (by2 i) w) := by
  have zq : (i : Int) < 65536 := by omega
  go_enter Try.func51, Try.ntmps51
  go_wp2
  go_ret
  refine ⟨_, rfl, Own.lit 5 w _ 2 (by2 i) rfl (by omega) ?_, (Below.refl _ _).alloc (Nat.le_refl _) _⟩
  simp [by2, bys]
  omega

def z20 : List Value := bys (List.replicate 20 0)
theorem z20_length : z20.length = 20 := by decide
theorem zi67 : (Try.prog.info? 67).map (·.zero) = some (some (.agg z20.toArray)) := by kernel_rfl
theorem s67 : (Try.prog.info? 67).map (·.size) = some 20 := by kernel_rfl
theorem tu67 : Try.prog.underlying 67 = some (.array 20 5) := by kernel_rfl
theorem tu22 : Try.prog.underlying 22 = some (.array 16 5) := by kernel_rfl
theorem s22 : (Try.prog.info? 22).map (·.size) = some 16 := by kernel_rfl

set_option maxRecDepth 100000 in
set_option maxHeartbeats 1000000 in
theorem prefixOf_any (I : List UInt8) (q : Nat) (w : World) (hI : I.length = 16) (hq : q < 4294967296) : Calls Try.prog 32 #[.agg (bys I).toArray, .int .u32 (q : Int)] w (Arr (bys (pre20 I q)) w) := by
  have HI := Lib.hid hI
  have H67 : Hid ((Try.prog.info? 67).map (·.size) = some (bys (pre20 I q)).length) := by show _ = _; rw [bys_length, pre20_length I q hI]; exact s67
  have HLZ : Hid (z20.length = (bys (pre20 I q)).length) := by show _ = _; rw [bys_length, pre20_length I q hI, z20_length]
  clear hI
  go_enter Try.func32, Try.ntmps32
  go_wp2_with (refine wpList_box_blk rfl 22 _ rfl (bys I) rfl ?_)
  intro w1 a1 a2 a3
  have A1 := Lib.hid a1
  have A2 := Lib.hid a2
  have A3 := Lib.hid a3
  clear a1 a2 a3
  go_wp2_with (refine wpList_alloc_blk rfl 67 rfl _ zi67 ?_)
  intro w2 a1 a2 a3
  rw [A2.out] at a1 a2 a3 ⊢
  have G1 : Hid (Blk w2 w.heap.size (bys I) 22) := A1.out.below a3 (by omega)
  have G2 : Hid (Blk w2 (w.heap.size + 1) z20 67) := a1
  have GB : Hid (Below w.heap.size w w2) := A3.out.trans (a3.mono (by omega))
  have hs2 := a2
  clear a1 a2 a3 A1 A2 A3
  go_wp2_with (refine wpList_alloc_blk rfl 67 rfl _ zi67 ?_)
  intro w3 a1 a2 a3
  have E1 : Hid (Blk w3 w.heap.size (bys I) 22) := G1.out.below a3 (by omega)
  have E2 : Hid (Blk w3 (w.heap.size + 1) z20 67) := G2.out.below a3 (by omega)
  have E3 : Hid (Blk w3 (w.heap.size + 1 + 1) z20 67) := a1
  have EB : Hid (Below w.heap.size w w3) := GB.out.trans (a3.mono (by omega))
  have hs3 := a2
  clear a1 a2 a3 G1 G2 GB hs2
  go_wp2
  refine wp_region_till 3 2 (fun _ => True) (by kernel_rfl) rfl ?_
  refine AnyTill.free (i := 0) (v := .slice (some ⟨w.heap.size + 1 + 1, 0, none⟩) 20 20) rfl (by kernel_rfl) (by kernel_rfl) (by kernel_rfl) (by kernel_rfl) (fun _ _ _ h => h) (by rfl) (fun w' => ?_) trivial ?_
  · first | (go_simp; done) | (go_simp; rfl)
  simp only [Act.put, List.setIfInBounds_toArray, List.set_cons_zero, List.set_cons_succ]
  refine AnyTill.free (i := 1) (v := .slice (some ⟨w.heap.size, 0, none⟩) 16 16) rfl (by kernel_rfl) (by kernel_rfl) (by kernel_rfl) (by kernel_rfl) (fun _ _ _ h => h) (by rfl) (fun w' => ?_) trivial ?_
  · first | (go_simp; done) | (go_simp; rfl)
  simp only [Act.put, List.setIfInBounds_toArray, List.set_cons_zero, List.set_cons_succ]
  refine AnyTill.one (i := 2) (by kernel_rfl) rfl (by rfl) (fun K hK => ?_)
  have hIl := HI.out
  refine wp_of_list rfl (wpList_copy_to rfl _ _ 42 rfl 5 Try.underlying42 s5 (w.heap.size + 1 + 1) 0 20 20 _ rfl rfl z20 67 E3.out.drew (w.heap.size + 1) I (Rd.blk 16 hIl E1.out.drew (by omega) (by omega)) (by rw [z20_length]; omega) 16 (by rw [List.length_take]; omega) (bys (I ++ List.replicate 4 0)) ?_ ?_)
  · have e : I.take 20 = I := List.take_of_length_le (by omega)
    rw [e, bys_append, hIl]
    rfl
  intro w4 h4 hb4
  refine hK.out _ _ (.inl (by kernel_rfl)) ?_
  clear hK K
  refine AnyTill.done (by kernel_rfl) ?_
  refine NoPanic.normal ?_
  simp only [Act.put, List.setIfInBounds_toArray, List.set_cons_zero, List.set_cons_succ]
  have F2 : Hid (Blk w4 (w.heap.size + 1) z20 67) := hb4.blk E2.out.drew (by omega)
  have F3 := Lib.hid h4
  have FB : Hid (Below w.heap.size w w4) := EB.out.trans (((Below.refl _ _).drew).trans (hb4.below (by omega) (by simp; omega)))
  have hs4 : w.heap.size + 1 + 1 + 1 ≤ w4.heap.size := by have := hb4.size; simp at this; omega
  clear h4 hb4 E1 E2 E3 EB hs3
  go_wp2
  refine wp_region_till 4 3 (fun w' => Below w4.heap.size w4 w') (by kernel_rfl) rfl ?_
  have hS : Below w4.heap.size w4 w4.drew := (Below.refl _ _).drew
  refine AnyTill.free (i := 0) (v := .slice (some ⟨w.heap.size + 1 + 1, 16, none⟩) 4 4) rfl (by kernel_rfl) (by kernel_rfl) (by kernel_rfl) (by kernel_rfl) (fun _ _ _ h => h) (by rfl) (fun w' => ?_) hS ?_
  · first | (go_simp; done) | (go_simp; rfl)
  simp only [Act.put, List.setIfInBounds_toArray, List.set_cons_zero, List.set_cons_succ]
  refine AnyTill.free (i := 1) (v := .int .u32 (q : Int)) rfl (by kernel_rfl) (by kernel_rfl) (by kernel_rfl) (by kernel_rfl) (fun _ _ _ h => h) (by rfl) (fun w' => ?_) hS ?_
  · first | (go_simp; done) | (go_simp; rfl)
  simp only [Act.put, List.setIfInBounds_toArray, List.set_cons_zero, List.set_cons_succ]
  refine AnyTill.one (i := 2) (by kernel_rfl) rfl (by rfl) (fun K hK => ?_)
  go_simp
  refine (fourBytes_any q _ hq).mono ?_
  rintro e w5 ⟨v5, rfl, hown5, hb5⟩
  have hS5 : Below w4.heap.size w4 w5 := hS.trans hb5
  refine hK.out _ _ (.inr hS5) ?_
  clear hK K
  refine AnyTill.one (i := 3) (by kernel_rfl) rfl (by rfl) (fun K hK => ?_)
  refine wp_of_list rfl (wpList_copy_to rfl _ _ 42 rfl 5 Try.underlying42 s5 (w.heap.size + 1 + 1) 16 4 4 _ rfl rfl (bys (I ++ List.replicate 4 0)) 67 (F3.out.below hS5 (by omega)) w5.heap.size (be 4 q) hown5.rd (by rw [bys_length]; simp; omega) 4 (by rw [List.length_take, be_length]; omega) (bys (pre20 I q)) ?_ ?_)
  · have e : (be 4 q).take 4 = be 4 q := List.take_of_length_le (by rw [be_length]; omega)
    rw [e, be_length, bys_append, List.take_append_of_le_length (by rw [bys_length]; omega), List.take_of_length_le (by rw [bys_length]; omega), List.drop_of_length_le (by simp [bys_length]; omega)]
    simp [pre20, bys_append]
  intro w6 h6 hb6
  refine hK.out _ _ (.inl (by kernel_rfl)) ?_
  clear hK K
  refine AnyTill.done (by kernel_rfl) ?_
  refine NoPanic.normal ?_
  simp only [Act.put, List.setIfInBounds_toArray, List.set_cons_zero, List.set_cons_succ]
  have D2 : Hid (Blk w6 (w.heap.size + 1) z20 67) := hb6.blk (F2.out.below hS5 (by omega)) (by omega)
  have D3 := Lib.hid h6
  have DB : Hid (Below w.heap.size w w6) := FB.out.trans ((hS5.mono (by omega)).trans (hb6.below (by omega) (by have := hS5.size; omega)))
  clear h6 hb6 hown5 hb5 hS hS5 F2 F3 FB
  go_wp2_with (first | (refine wpList_load_blk rfl 67 _ rfl (w.heap.size + 1 + 1) rfl (bys (pre20 I q)) 67 D3.out 20 5 tu67 H67.out ?_) | (refine wpList_store_blk rfl 67 _ _ rfl (w.heap.size + 1) (bys (pre20 I q)) z20 67 rfl rfl D2.out H67.out HLZ.out (bys_one' _) ?_))
  refine bodyPost_ret (v := .agg (bys (pre20 I q)).toArray) ?_ rfl ?_
  · exact ret_blk rfl _ _ (w.heap.size + 1) 67 _ rfl D2.out.setRow 20 5 tu67 H67.out
  · exact ⟨rfl, below_setRow' DB.out (by omega) _⟩
end Go.Proofs.Ytejeefkoalbcmaa

/-
  The document's replies: TakeReply. Each theorem states its own conditions.
-/
import Derived.Test.YtmlpiembglmggaaNH
import Derived.Test.YtmlpiembglmggaaRZ
namespace Go.Proofs.Ytmlpiembglmggaa
open Go.RowKit
theorem rowRpR : ∃ d, Try.prog.underlying 37 = some d ∧ d.isRow = true := ⟨_, Try.underlying37, rfl⟩
theorem szRpR : (Try.prog.info? 37).map (·.size) = some 6 := by kernel_rfl
theorem zeroRpR : (Try.prog.info? 37).map (·.zero) = some (some (.agg (rpc rp0 (.slice none 0 0)).toArray)) := by kernel_rfl
theorem rpc_all (r : Rp) (A : Option Addr) (n c : Nat) : (rpc r (.slice A n c)).toArray.all (·.oneCell') = true := by
  rw [Array.all_eq_true_iff_forall_mem]
  intro v hv
  simp only [rpc, List.mem_toArray, List.mem_cons, List.not_mem_nil, or_false] at hv
  rcases hv with rfl | rfl | rfl | rfl | rfl | rfl <;> rfl
/-- Bytes lie apart from a block that holds none, and stay where it is written. -/
theorem Rd.butO {B : Nat} {w w' : World} {v : Value} {l : List UInt8} (h : Rd B w v l) {g : Nat} {cs : List Value} {t : TypeId} (hx : Blk w g cs t) (hk : ∀ u ∈ cs, ∀ z, u ≠ .int .u8 z) (ho : ∀ k, k ≠ g → w'.heap[k]? = w.heap[k]?) : Rd B w' v l := by
  obtain ⟨A, c, rfl, hc, hm, hn, hr⟩ := h
  refine ⟨A, c, rfl, hc, hm, hn, fun a ha => ⟨(hr a ha).1, fun j hj => ?_⟩⟩
  have h1 := (hr a ha).2 j hj
  have hne : a.block ≠ g := by
    intro e
    have hs := cell_spot h1
    have hb := addr_block a j
    obtain ⟨b9, o9, s9⟩ := a
    simp only at e
    subst e
    have h2 : ∃ o, (⟨b9, o9, s9⟩ : Addr).add j = ⟨b9, o, none⟩ := by
      generalize (⟨b9, o9, s9⟩ : Addr).add j = q at hs hb
      obtain ⟨qb, qo, qs⟩ := q
      simp only at hs hb
      subst hs hb
      exact ⟨_, rfl⟩
    obtain ⟨o, h2⟩ := h2
    rw [h2, hx.cell o] at h1
    exact hk _ (List.mem_of_getElem? h1) _ rfl
  have e : w'.cell? (a.add j) = w.cell? (a.add j) := cell_heap _ (by rw [addr_block]; exact ho _ hne)
  rw [e]
  exact h1
theorem rpc_no8 (r : Rp) (A : Option Addr) (n c : Nat) : ∀ u ∈ rpc r (.slice A n c), ∀ z, u ≠ .int .u8 z := by
  intro v hv z
  simp only [rpc, List.mem_cons, List.not_mem_nil, or_false] at hv
  rcases hv with rfl | rfl | rfl | rfl | rfl | rfl <;> intro h <;> cases h
theorem orc_no8 (o : Or) : ∀ u ∈ orc o, ∀ z, u ≠ .int .u8 z := by
  intro v hv z
  simp only [orc, List.mem_cons, List.not_mem_nil, or_false] at hv
  rcases hv with rfl | rfl | rfl | rfl | rfl | rfl | rfl | rfl <;> intro h <;> cases h
/-- Strings of one's own stay where an older block is written. -/
theorem OwnS.stored {e : TypeId} {w w' : World} {base g : Nat} {v : Value} {l : List ByteArray} (h : OwnS e w base v l) (hg : g < base) (ho : ∀ k, k ≠ g → w'.heap[k]? = w.heap[k]?) : OwnS e w' base v l := by
  refine ⟨h.1, ?_⟩
  rcases h.2 with hn | ⟨q, cap, cur, rfl, hg0, hg', r⟩
  · exact .inl hn
  · exact .inr ⟨q, cap, cur, rfl, hg0, by rw [ho q (by omega)]; exact hg', r⟩
/-- A reply, what is left, a fault. -/
def TookR (r : Rp × List UInt8 × Nat) (w : World) (e : Ending) (w' : World) : Prop :=
  ∃ nv vr, e = .returned (.tuple #[.agg (rpc r.1 nv).toArray, vr, .int .i64 (r.2.2 : Int)]) ∧ RdS w'.heap.size w' nv (pN r.1) ∧ Rd w'.heap.size w' vr r.2.1 ∧ Below w.heap.size w w'
theorem takeR_1 {l r1 : List UInt8} {ns : List Int} {e1 : Nat} (h : takeIs 4 l = (ns, r1, e1)) (he : e1 ≠ 0) : takeR l = (rp0, [], e1) := by
  unfold takeR
  rw [h, if_pos he]
theorem takeR_2 {l r1 r2 p : List UInt8} {ns : List Int} {e2 : Nat} (h : takeIs 4 l = (ns, r1, 0)) (h2 : takeS r1 1000 = (p, r2, e2)) (he : e2 ≠ 0) : takeR l = (rp0, [], e2) := by
  unfold takeR
  rw [h]
  simp only [h2]
  rw [if_neg (by simp), if_pos he]
theorem takeR_3 {l r1 r2 r3 p : List UInt8} {q : List ByteArray} {ns : List Int} {e3 : Nat} (h : takeIs 4 l = (ns, r1, 0)) (h2 : takeS r1 1000 = (p, r2, 0)) (h3 : takeL r2 200 1000 = (q, r3, e3)) (he : e3 ≠ 0) : takeR l = (rp0, [], e3) := by
  unfold takeR
  rw [h]
  simp only [h2, h3]
  rw [if_neg (by simp), if_neg (by simp), if_pos he]
theorem takeR_4 {l r1 r2 r3 p : List UInt8} {q : List ByteArray} {ns : List Int} (h : takeIs 4 l = (ns, r1, 0)) (h2 : takeS r1 1000 = (p, r2, 0)) (h3 : takeL r2 200 1000 = (q, r3, 0)) : takeR l = if ns.getD 2 0 < 0 ∨ 16 < ns.getD 2 0 then (rp0, [], 3) else (rpTaken ns p q, r3, 0) := by
  unfold takeR
  rw [h]
  simp only [h2, h3]
  rw [if_neg (by simp), if_neg (by simp), if_neg (by simp)]
theorem rest_len {k : Nat} {l r1 r2 p : List UInt8} {ns : List Int} {m : Int} (h : takeIs k l = (ns, r1, 0)) (h2 : takeS r1 m = (p, r2, 0)) : r2.length ≤ l.length := by
  have h3 := (takeIs_only k l ns r1 h).1
  have h4 := takeS_only r1 p r2 m h2
  rw [← h3, ← h4]
  simp only [List.length_append]
  omega

set_option maxRecDepth 1000000 in
set_option maxHeartbeats 8000000 in
theorem rfTakeR_any (v : Value) (l : List UInt8) (w : World) (hr : Rd w.heap.size w v l) (hl : l.length ≤ 1000000) : Calls Try.prog 23 #[v] w (TookR (takeR l) w) := by
  obtain ⟨d30, hu30, hd30⟩ := rowRpR
  have HU := Lib.hid hu30
  have HD := Lib.hid hd30
  have HR := Lib.hid hr
  have HLL := Lib.hid hl
  clear hr hu30 hd30 hl
  go_enter Try.func23, Try.ntmps23
  go_wp2_with (refine wpList_alloc_blk rfl 37 rfl (rpc rp0 (.slice none 0 0)) zeroRpR ?_)
  intro w1 a1 a2 a3
  obtain ⟨g, hg⟩ : ∃ g, w.heap.size = g := ⟨_, rfl⟩
  have X0 := Lib.hid a1
  have E1 := Lib.hid a3
  have hg1 : g ≤ w1.heap.size := by omega
  have HG := Lib.hid hg
  rw [hg] at X0 E1 HR ⊢
  clear a1 a2 a3 hg
  have HR1 : Hid (Rd g w1 v l) := HR.out.below E1.out
  go_wp2_with fail
  refine (rfInts_any v l 4 g w1 HR1.out hg1 (by omega)).mono ?_
  rintro e w2 ⟨vl, vr, rfl, hL, hrr, hb⟩
  obtain ⟨ns, r1, e1, hT⟩ : ∃ a b c, takeIs 4 l = (a, b, c) := ⟨_, _, _, rfl⟩
  rw [hT] at hL hrr ⊢
  have HT := Lib.hid hT
  have HL := Lib.hid hL
  have HR2 := Lib.hid hrr
  have E2 := Lib.hid (E1.out.trans (hb.mono hg1))
  have X2 := Lib.hid (X0.out.below hb X0.out.lt)
  have hg2 : g ≤ w2.heap.size := Nat.le_trans hg1 hb.size
  have hs12 : w1.heap.size ≤ w2.heap.size := hb.size
  have hgl : g < w2.heap.size := X2.out.lt
  clear hT hL hrr hb X0 E1 HR1 hg1
  by_cases he1 : e1 = 0
  case neg =>
    have hne : ((e1 : Int) != 0) = true := by rw [bne_iff_ne]; omega
    go_wp2_with (refine wpList_store_to rfl 37 _ _ rfl g (rpc rp0 (.slice none 0 0)) (rpc rp0 (.slice none 0 0)) 37 rfl rfl X2.out szRpR rfl (rpc_all _ _ _ _) ?_)
    intro w20 e1' e2' e3' e4'
    go_wp2
    refine bodyPost_ret (v := .tuple #[.agg (rpc rp0 (.slice none 0 0)).toArray, .slice none 0 0, .int .i64 (e1 : Int)]) ?_ rfl ?_
    · exact ret_blk3O rfl _ _ g 37 (rpc rp0 (.slice none 0 0)) _ _ rfl rfl rfl e1' d30 HU.out HD.out szRpR
    · rw [takeR_1 HT.out he1]
      exact ⟨_, _, rfl, RdS.nil _ _, Rd.nil _ _, by rw [HG.out]; exact E2.out.trans (e3'.mono (Nat.le_refl _))⟩
  subst he1
  go_wp2_with fail
  refine (refText_any vr r1 1000 g w2 HR2.out hg2 (by omega) (by omega)).mono ?_
  rintro e w3 ⟨vr2, rfl, hrr, hb⟩
  obtain ⟨p, r2, e2, hT⟩ : ∃ a b c, takeS r1 1000 = (a, b, c) := ⟨_, _, _, rfl⟩
  rw [hT] at hrr ⊢
  have HT3 := Lib.hid hT
  have HR3 : Hid (Rd g w3 vr2 r2) := hrr
  have E3 := Lib.hid (E2.out.trans (hb.mono hg2))
  have X3 := Lib.hid (X2.out.below hb X2.out.lt)
  have hg3 : g < w3.heap.size := X3.out.lt
  have HL3 := Lib.hid ((HL.out.below hb).more hb.size)
  clear hT hrr hb HR2 E2 X2 HL hgl hs12 hg2
  by_cases he2 : e2 = 0
  case neg =>
    have hne : ((e2 : Int) != 0) = true := by rw [bne_iff_ne]; omega
    go_wp2_with (refine wpList_store_to rfl 37 _ _ rfl g (rpc rp0 (.slice none 0 0)) (rpc rp0 (.slice none 0 0)) 37 rfl rfl X3.out szRpR rfl (rpc_all _ _ _ _) ?_)
    intro w20 e1' e2' e3' e4'
    go_wp2
    refine bodyPost_ret (v := .tuple #[.agg (rpc rp0 (.slice none 0 0)).toArray, .slice none 0 0, .int .i64 (e2 : Int)]) ?_ rfl ?_
    · exact ret_blk3O rfl _ _ g 37 (rpc rp0 (.slice none 0 0)) _ _ rfl rfl rfl e1' d30 HU.out HD.out szRpR
    · rw [takeR_2 HT.out HT3.out he2]
      exact ⟨_, _, rfl, RdS.nil _ _, Rd.nil _ _, by rw [HG.out]; exact E3.out.trans (e3'.mono (Nat.le_refl _))⟩
  subst he2
  have HRL := Lib.hid (rest_len HT.out HT3.out)
  go_wp2_with fail
  refine (refList_any vr2 r2 200 1000 w3 (HR3.out.more (Nat.le_of_lt hg3)) (by omega) (by omega) (by omega) (by omega) (by have h1 := HRL.out; have h2 := HLL.out; omega)).mono ?_
  rintro e w4 ⟨vn, vr3, rfl, hnn, hrr, hb⟩
  obtain ⟨q, r3, e3, hT⟩ : ∃ a b c, takeL r2 200 1000 = (a, b, c) := ⟨_, _, _, rfl⟩
  rw [hT] at hrr hnn ⊢
  have HT4 := Lib.hid hT
  have HR4 : Hid (Rd w3.heap.size w4 vr3 r3) := hrr
  have HN4 := Lib.hid hnn
  have E4 := Lib.hid (E3.out.trans (hb.mono (Nat.le_of_lt hg3)))
  have X4 := Lib.hid (X3.out.below hb X3.out.lt)
  have hg4 : g < w4.heap.size := X4.out.lt
  have hs34 : w3.heap.size ≤ w4.heap.size := hb.size
  have HL4 := Lib.hid ((HL3.out.below hb).more hb.size)
  clear hT hrr hnn hb HR3 E3 X3 HL3 HRL
  by_cases he3 : e3 = 0
  case neg =>
    have hne : ((e3 : Int) != 0) = true := by rw [bne_iff_ne]; omega
    go_wp2_with (refine wpList_store_to rfl 37 _ _ rfl g (rpc rp0 (.slice none 0 0)) (rpc rp0 (.slice none 0 0)) 37 rfl rfl X4.out szRpR rfl (rpc_all _ _ _ _) ?_)
    intro w20 e1' e2' e3' e4'
    go_wp2
    refine bodyPost_ret (v := .tuple #[.agg (rpc rp0 (.slice none 0 0)).toArray, .slice none 0 0, .int .i64 (e3 : Int)]) ?_ rfl ?_
    · exact ret_blk3O rfl _ _ g 37 (rpc rp0 (.slice none 0 0)) _ _ rfl rfl rfl e1' d30 HU.out HD.out szRpR
    · rw [takeR_3 HT.out HT3.out HT4.out he3]
      exact ⟨_, _, rfl, RdS.nil _ _, Rd.nil _ _, by rw [HG.out]; exact E4.out.trans (e3'.mono (Nat.le_refl _))⟩
  subst he3
  have HNL : Hid (ns.length = 4) := by
    have h := takeIs_len 4 l (by rw [HT.out])
    rw [HT.out] at h
    exact h
  have HF := Lib.hid (takeR_4 HT.out HT3.out HT4.out)
  obtain ⟨n0, n1, n2, n3, rfl⟩ : ∃ n0 n1 n2 n3, ns = [n0, n1, n2, n3] := by
    have h := HNL.out
    clear HNL HF HT HL4
    match ns, h with
    | [n0, n1, n2, n3], _ => exact ⟨n0, n1, n2, n3, rfl⟩
  clear HNL
  obtain ⟨AL, cL, rfl, -, -⟩ := HL4.out.shape
  obtain ⟨aL, rfl, -⟩ := HL4.out.at1 0 (by show (0 : Nat) < 4; decide)
  obtain ⟨AN, cN, hvn, -, -⟩ := HN4.out.rd.shape
  subst hvn
  obtain ⟨OO, hOO⟩ : ∃ o : Rp, (n0, n1, n2, p, n3, q) = o := ⟨_, rfl⟩
  have HOO := Lib.hid hOO
  change Hid (takeR l = if n2 < 0 ∨ 16 < n2 then (rp0, [], 3) else ((n0, n1, n2, p, n3, q), r3, 0)) at HF
  rw [hOO] at HF
  obtain ⟨a9, hA9, c2⟩ := HL4.out.at1 2 (by show (2 : Nat) < 4; decide)
  obtain rfl : aL = a9 := Option.some.inj hA9
  change w4.cell? ⟨aL.block, aL.off + 2, none⟩ = some (.int .i64 n2) at c2
  clear hOO
  by_cases hz1 : n2 < 0
  · rw [if_pos (Or.inl hz1)] at HF
    go_wp2_with (refine wpList_store_to rfl 37 _ _ rfl g (rpc rp0 (.slice none 0 0)) (rpc rp0 (.slice none 0 0)) 37 rfl rfl X4.out szRpR rfl (rpc_all _ _ _ _) ?_)
    intro w20 e1' e2' e3' e4'
    go_wp2
    refine bodyPost_ret (v := .tuple #[.agg (rpc rp0 (.slice none 0 0)).toArray, .slice none 0 0, .int .i64 3]) ?_ rfl ?_
    · exact ret_blk3O rfl _ _ g 37 (rpc rp0 (.slice none 0 0)) _ _ rfl rfl rfl e1' d30 HU.out HD.out szRpR
    · rw [HF.out]
      exact ⟨_, _, rfl, RdS.nil _ _, Rd.nil _ _, by rw [HG.out]; exact E4.out.trans (e3'.mono (Nat.le_refl _))⟩
  by_cases hz2 : 16 < n2
  · rw [if_pos (Or.inr hz2)] at HF
    go_wp2_with (refine wpList_store_to rfl 37 _ _ rfl g (rpc rp0 (.slice none 0 0)) (rpc rp0 (.slice none 0 0)) 37 rfl rfl X4.out szRpR rfl (rpc_all _ _ _ _) ?_)
    intro w20 e1' e2' e3' e4'
    go_wp2
    refine bodyPost_ret (v := .tuple #[.agg (rpc rp0 (.slice none 0 0)).toArray, .slice none 0 0, .int .i64 3]) ?_ rfl ?_
    · exact ret_blk3O rfl _ _ g 37 (rpc rp0 (.slice none 0 0)) _ _ rfl rfl rfl e1' d30 HU.out HD.out szRpR
    · rw [HF.out]
      exact ⟨_, _, rfl, RdS.nil _ _, Rd.nil _ _, by rw [HG.out]; exact E4.out.trans (e3'.mono (Nat.le_refl _))⟩
  rw [if_neg (by omega)] at HF
  go_wp2
  clear c2
  refine wp_region_relyF [15] 16 3 (fun x => ⟨#[v, undef, .pointer (some { block := g, off := 0 }), .slice none 0 0, .int IntKind.i64 0, .slice (some aL) 4 cL, vr3, .int IntKind.i64 0, .string { data := p.toArray }, .slice AN q.length cN, .tuple #[Value.slice (some aL) 4 cL, vr, Value.int IntKind.i64 0], v, .tuple #[Value.slice (some aL) 4 cL, vr, Value.int IntKind.i64 0], .slice (some aL) 4 cL, vr, .int IntKind.i64 0, .int IntKind.i64 0, .bool false, undef, undef, .tuple #[Value.string { data := p.toArray }, vr2, Value.int IntKind.i64 0], vr, .tuple #[Value.string { data := p.toArray }, vr2, Value.int IntKind.i64 0], .string { data := p.toArray }, vr2, .int IntKind.i64 0, .int IntKind.i64 0, .bool false, undef, undef, .tuple #[Value.slice AN q.length cN, vr3, Value.int IntKind.i64 0], vr2, .tuple #[Value.slice AN q.length cN, vr3, Value.int IntKind.i64 0], .slice AN q.length cN, vr3, .int IntKind.i64 0, .int IntKind.i64 0, .bool false, undef, undef, .slice (some aL) 4 cL, .pointer (some { block := aL.block, off := aL.off + 2 }), .int IntKind.i64 n2, .bool (decide (n2 < 0)), .bool (decide (n2 < 0)), .slice (some aL) 4 cL, .pointer (some { block := aL.block, off := aL.off + 2 }), .int IntKind.i64 n2, .bool (decide (16 < n2)), .bool (decide (n2 < 0) || decide (16 < n2)), undef, x 0, x 1, x 2, x 3, x 4, x 5, x 6, x 7, x 8, x 9, x 10, x 11, x 12, x 13, x 14, x 15], []⟩) (fun jj => ([eqV (.slice (some aL) 4 cL), eqV (.pointer (some (aL.add 0))), eqV (.int .i64 n0), eqV (.slice (some aL) 4 cL), eqV (.pointer (some (aL.add 1))), eqV (.int .i64 n1), eqV (.slice (some aL) 4 cL), eqV (.pointer (some (aL.add 2))), eqV (.int .i64 n2), eqV (.string { data := p.toArray }), eqV (.slice (some aL) 4 cL), eqV (.pointer (some (aL.add 3))), eqV (.int .i64 n3), eqV (.slice AN q.length cN), eqV (.agg (rpc (n0, n1, n2, p, n3, q) (.slice AN q.length cN)).toArray), eqV (vr3)] : List (Value → World → Prop)).getD jj (fun _ _ => True)) rfl ⟨fun kk => [_, _, _, _, _, _, _, _, _, _, _, _, _, _, _, _].getD kk undef, rfl⟩ (by kernel_rfl) (by kernel_rfl) (by kernel_rfl) ?pure ?steps ?fin
  case steps =>
    refine StepsAt.val 0 (.slice (some aL) 4 cL) rfl (fun _ _ => rfl) rfl rfl (fun x wx hb hd => ?_) ?_
    · first | (go_simp; done) | (go_simp; rfl)
    refine StepsAt.val 1 (.pointer (some (aL.add 0))) rfl (fun _ _ => rfl) rfl rfl (fun x wx hb hd => ?_) ?_
    · have h0 : x 0 = .slice (some aL) 4 cL := hd 0 (by kernel_rfl)
      rw [h0]
      first | (go_simp; done) | (go_simp; rfl)
    refine StepsAt.val 2 (.int .i64 n0) rfl (fun _ _ => rfl) rfl rfl (fun x wx hb hd => ?_) ?_
    · have h1 : x 1 = .pointer (some (aL.add 0)) := hd 1 (by kernel_rfl)
      obtain ⟨a9, hA9, cc⟩ := ((HL4.out.below hb).at1 0 (by show (0 : Nat) < 4; decide))
      obtain rfl : aL = a9 := Option.some.inj hA9
      rw [add_zeroA] at cc
      change wx.cell? aL = some (.int .i64 n0) at cc
      rw [h1]
      first | (go_simp; done) | (go_simp; rfl)
    refine StepsAt.val 3 (.slice (some aL) 4 cL) rfl (fun _ _ => rfl) rfl rfl (fun x wx hb hd => ?_) ?_
    · first | (go_simp; done) | (go_simp; rfl)
    refine StepsAt.val 4 (.pointer (some (aL.add 1))) rfl (fun _ _ => rfl) rfl rfl (fun x wx hb hd => ?_) ?_
    · have h3 : x 3 = .slice (some aL) 4 cL := hd 3 (by kernel_rfl)
      rw [h3]
      first | (go_simp; done) | (go_simp; rfl)
    refine StepsAt.val 5 (.int .i64 n1) rfl (fun _ _ => rfl) rfl rfl (fun x wx hb hd => ?_) ?_
    · have h4 : x 4 = .pointer (some (aL.add 1)) := hd 4 (by kernel_rfl)
      obtain ⟨a9, hA9, cc⟩ := ((HL4.out.below hb).at1 1 (by show (1 : Nat) < 4; decide))
      obtain rfl : aL = a9 := Option.some.inj hA9
      change wx.cell? ⟨aL.block, aL.off + 1, none⟩ = some (.int .i64 n1) at cc
      rw [h4]
      first | (go_simp; done) | (go_simp; rfl)
    refine StepsAt.val 6 (.slice (some aL) 4 cL) rfl (fun _ _ => rfl) rfl rfl (fun x wx hb hd => ?_) ?_
    · first | (go_simp; done) | (go_simp; rfl)
    refine StepsAt.val 7 (.pointer (some (aL.add 2))) rfl (fun _ _ => rfl) rfl rfl (fun x wx hb hd => ?_) ?_
    · have h6 : x 6 = .slice (some aL) 4 cL := hd 6 (by kernel_rfl)
      rw [h6]
      first | (go_simp; done) | (go_simp; rfl)
    refine StepsAt.val 8 (.int .i64 n2) rfl (fun _ _ => rfl) rfl rfl (fun x wx hb hd => ?_) ?_
    · have h7 : x 7 = .pointer (some (aL.add 2)) := hd 7 (by kernel_rfl)
      obtain ⟨a9, hA9, cc⟩ := ((HL4.out.below hb).at1 2 (by show (2 : Nat) < 4; decide))
      obtain rfl : aL = a9 := Option.some.inj hA9
      change wx.cell? ⟨aL.block, aL.off + 2, none⟩ = some (.int .i64 n2) at cc
      rw [h7]
      first | (go_simp; done) | (go_simp; rfl)
    refine StepsAt.val 9 (.string { data := p.toArray }) rfl (fun _ _ => rfl) rfl rfl (fun x wx hb hd => ?_) ?_
    · first | (go_simp; done) | (go_simp; rfl)
    refine StepsAt.val 10 (.slice (some aL) 4 cL) rfl (fun _ _ => rfl) rfl rfl (fun x wx hb hd => ?_) ?_
    · first | (go_simp; done) | (go_simp; rfl)
    refine StepsAt.val 11 (.pointer (some (aL.add 3))) rfl (fun _ _ => rfl) rfl rfl (fun x wx hb hd => ?_) ?_
    · have h10 : x 10 = .slice (some aL) 4 cL := hd 10 (by kernel_rfl)
      rw [h10]
      first | (go_simp; done) | (go_simp; rfl)
    refine StepsAt.val 12 (.int .i64 n3) rfl (fun _ _ => rfl) rfl rfl (fun x wx hb hd => ?_) ?_
    · have h11 : x 11 = .pointer (some (aL.add 3)) := hd 11 (by kernel_rfl)
      obtain ⟨a9, hA9, cc⟩ := ((HL4.out.below hb).at1 3 (by show (3 : Nat) < 4; decide))
      obtain rfl : aL = a9 := Option.some.inj hA9
      change wx.cell? ⟨aL.block, aL.off + 3, none⟩ = some (.int .i64 n3) at cc
      rw [h11]
      first | (go_simp; done) | (go_simp; rfl)
    refine StepsAt.val 13 (.slice AN q.length cN) rfl (fun _ _ => rfl) rfl rfl (fun x wx hb hd => ?_) ?_
    · first | (go_simp; done) | (go_simp; rfl)
    refine StepsAt.val 14 (.agg (rpc (n0, n1, n2, p, n3, q) (.slice AN q.length cN)).toArray) rfl (fun _ _ => rfl) rfl rfl (fun x wx hb hd => ?_) ?_
    · have h2 : x 2 = .int .i64 n0 := hd 2 (by kernel_rfl)
      have h5 : x 5 = .int .i64 n1 := hd 5 (by kernel_rfl)
      have h8 : x 8 = .int .i64 n2 := hd 8 (by kernel_rfl)
      have h9 : x 9 = .string { data := p.toArray } := hd 9 (by kernel_rfl)
      have h12 : x 12 = .int .i64 n3 := hd 12 (by kernel_rfl)
      have h13 : x 13 = .slice AN q.length cN := hd 13 (by kernel_rfl)
      rw [h2, h5, h8, h9, h12, h13]
      first | (go_simp; done) | (go_simp; rfl)
    refine StepsAt.val 15 (vr3) rfl (fun _ _ => rfl) rfl rfl (fun x wx hb hd => ?_) ?_
    · first | (go_simp; done) | (go_simp; rfl)
    exact StepsAt.done
  case pure =>
    intro p hp op ho xx wx hd
    obtain rfl := List.mem_singleton.1 hp
    injection ho with ho
    subst ho
    refine ⟨by rfl, vr3, fun w9 => ?_, rfl⟩
    first | (go_simp; done) | (go_simp; rfl)
  case fin =>
    intro x wx hb hd
    have hxv : x 14 = .agg (rpc (n0, n1, n2, p, n3, q) (.slice AN q.length cN)).toArray := hd 14 (by omega)
    have hx6 : x 15 = vr3 := hd 15 (by omega)
    have EB := Lib.hid hb
    have XR := Lib.hid (X4.out.below hb X4.out.lt)
    refine AnyTill.any (S := fun _ => True) (m := 16) _ _ _ _ ?_
    rw [hxv, hx6]
    clear hd hb hxv hx6
    refine AnyTill.one (i := 16) (by kernel_rfl) rfl (by rfl) (fun K hK => ?_)
    refine wp_of_list rfl (wpList_store_to rfl 37 _ _ rfl g (rpc (n0, n1, n2, p, n3, q) (.slice AN q.length cN)) (rpc rp0 (.slice none 0 0)) 37 rfl rfl XR.out szRpR rfl (rpc_all _ _ _ _) ?_)
    intro w5 e1 e2 e3 e4
    refine hK.out _ _ (.inr trivial) ?_
    clear hK K
    refine AnyTill.one (i := 17) (by kernel_rfl) rfl (by rfl) (fun K hK => ?_)
    go_simp
    refine hK.out _ _ (.inr trivial) ?_
    clear hK K
    refine AnyTill.one (i := 18) (by kernel_rfl) rfl (by rfl) (fun K hK => ?_)
    go_simp
    refine hK.out _ _ (.inr trivial) ?_
    clear hK K
    refine AnyTill.done (by kernel_rfl) ?_
    refine NoPanic.normal ?_
    try dsimp only
    have HOOo := HOO.out
    have X5 : Blk w5 g (rpc OO (.slice AN q.length cN)) 37 := by
      rw [← HOOo]
      exact e1
    have hg5 : g < wx.heap.size := Nat.lt_of_lt_of_le hg4 EB.out.size
    have HR5 : Rd w5.heap.size w5 vr3 r3 := (((HR4.out.more hs34).below EB.out).butO XR.out (rpc_no8 _ _ _ _) e4).more (show w4.heap.size ≤ w5.heap.size by have := EB.out.size; omega)
    have HN5 : RdS w5.heap.size w5 (.slice AN q.length cN) (pN OO) := by
      rw [← HOOo]
      exact ((HN4.out.below EB.out (Nat.le_refl _)).stored hg3 e4).rd
    have E5 := E4.out.trans ((EB.out.mono (Nat.le_of_lt hg4)).trans e3)
    go_wp2
    refine bodyPost_ret (v := .tuple #[.agg (rpc OO (.slice AN q.length cN)).toArray, vr3, .int .i64 0]) ?_ rfl ?_
    · exact ret_blk3O rfl _ _ g 37 (rpc OO (.slice AN q.length cN)) _ _ rfl rfl rfl X5 d30 HU.out HD.out szRpR
    · rw [HF.out]
      exact ⟨_, _, rfl, HN5, HR5, by rw [HG.out]; exact E5⟩
end Go.Proofs.Ytmlpiembglmggaa

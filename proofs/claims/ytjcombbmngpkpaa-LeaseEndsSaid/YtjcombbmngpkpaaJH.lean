/-
  The statements on books: plain, a book as the document's.
-/
import Derived.Test.YtjcombbmngpkpaaJG
namespace Go.Proofs.Ytjcombbmngpkpaa
open Go.RowKit

theorem zSeL : (Try.prog.info? 56).map (·.zero) = some (some (.agg (sec se0).toArray)) := by kernel_rfl
theorem sSeL : (Try.prog.info? 56).map (·.size) = some 3 := by kernel_rfl

set_option maxRecDepth 100000 in
set_option maxHeartbeats 8000000 in
theorem plainB_any (t : Int) (l : List Se) (v : Value) (w : World) (hr : RdE SeK w.heap.size w v l) (hl : l.length ≤ 5864062014805) : Calls Try.prog 11 #[.agg #[.int .i64 t, v]] w (Book1 t l w) := by
  obtain ⟨A, cp, rfl, hc, hm⟩ := hr.shape
  unfold maxLen at hm
  obtain ⟨n, hn⟩ : ∃ n, l.length = n := ⟨_, rfl⟩
  have HN := Lib.hid hn
  have HR := Lib.hid hr
  rw [hn] at hc HR hl ⊢
  have HL := Lib.hid hl
  obtain ⟨d30, hu30, hd30⟩ := rowBK
  have HU := Lib.hid hu30
  have HD := Lib.hid hd30
  clear hr hn hl hu30 hd30
  go_enter Try.func11, Try.ntmps11
  go_wp2_with (refine wpList_box_blk rfl 24 _ rfl [.int .i64 t, .slice A n cp] rfl ?_)
  intro w1 b1 b2 b3
  go_wp2_with (refine wpList_alloc_blk rfl 30 rfl [.int .i64 0, .slice none 0 0] zBK ?_)
  intro w2 a1 a2 a3
  obtain ⟨g0, hg0⟩ : ∃ g, w.heap.size = g := ⟨_, rfl⟩
  obtain ⟨g1, hg1⟩ : ∃ g, w.heap.size + 1 = g := ⟨_, rfl⟩
  have X0 := Lib.hid (b1.below a3 (by omega))
  have X1 := Lib.hid a1
  have HB := Lib.hid (b3.trans (a3.mono (by omega)))
  have hg01 : g0 < g1 := by omega
  have hg2 : g1 < w2.heap.size := by omega
  have hw1 : w.heap.size ≤ g1 := by omega
  rw [hg1] at X1 ⊢
  rw [hg0] at X0 ⊢
  have ca := X0.out.cell 0
  clear b1 b2 b3 a1 a2 a3 hg1 hg0
  go_wp2_with (refine wpList_alloc_blk rfl 30 rfl [.int .i64 0, .slice none 0 0] zBK ?_)
  intro w3 a1 a2 a3
  obtain ⟨g3, hg3⟩ : ∃ g, w2.heap.size = g := ⟨_, rfl⟩
  have Y0 := Lib.hid (X0.out.below a3 (by omega))
  have Y1 := Lib.hid (X1.out.below a3 (by omega))
  have HB3 := Lib.hid (HB.out.trans (a3.mono (by omega)))
  have A1 := Lib.hid a1
  have hg13 : g1 < g3 := by omega
  have hw3 : w.heap.size ≤ g3 := by omega
  have hs3 : w3.heap.size = g3 + 1 := by omega
  rw [hg3] at A1 ⊢
  clear a1 a2 a3 X0 X1 HB hg2 hg3 ca
  go_wp2_with (refine wpList_store_to rfl 30 _ _ rfl g3 [.int .i64 t, .slice none 0 0] [.int .i64 0, .slice none 0 0] 30 rfl rfl A1.out sBK rfl (book_one _ _ _ _) ?_)
  intro w4 e1 e2 e3 e4
  have X0 := Lib.hid (Y0.out.same (e4 g0 (by omega)))
  have X1 := Lib.hid (Y1.out.same (e4 g1 (by omega)))
  have HB := Lib.hid (HB3.out.trans (e3.mono hw3))
  have hs4 : w4.heap.size = g3 + 1 := by omega
  obtain ⟨G, hG⟩ : ∃ G, g3 + 1 = G := ⟨_, rfl⟩
  have X3 := Lib.hid e1
  have ca := X0.out.at_ 1 _ rfl
  have HS4 := Lib.hid hs4
  have hg3G : g3 < G := by omega
  clear e1 e2 e3 e4 Y0 Y1 HB3 A1 hs3 hs4
  go_wp2
  go_loopw [4] (fun x wr => ∃ (i : Nat) (o : Value), i ≤ n ∧ x = .int .i64 (i : Int) ∧ Hid (Blk wr g3 [.int .i64 t, o] 30) ∧ Hid (OwnE SeK 58 wr G o (l.take i)) ∧ Hid (Below g3 w4 wr) ∧ G ≤ wr.heap.size) (fun x _ => n - (intOf x).toNat)
  case atStart => exact ⟨0, _, by omega, rfl, X3, OwnE.nil _ _ _, Below.refl _ _, by have := HS4.out; omega⟩
  case round =>
    obtain ⟨i, o, hi, rfl, H3, HO, HW, hGr⟩ := hrel
    clear ca
    have ca := (X0.out.below HW.out (by omega)).at_ 1 _ rfl
    by_cases hi2 : i < n
    · have zi : (i : Int) < (n : Int) := by omega
      obtain ⟨a, hA, c0, c1, c2⟩ := (HR.out.below (HB.out.trans (HW.out.mono hw3))).at3 i (by rw [HN.out]; exact hi2)
      subst hA
      have HT := Lib.hid (take_se l i (by rw [HN.out]; exact hi2))
      obtain ⟨x, hx⟩ : ∃ x, l.getD i se0 = x := ⟨_, rfl⟩
      rw [hx] at c0 c1 c2 HT
      have HOL : Hid ((l.take i).length = i) := by
        show _ = _
        have := HN.out
        rw [List.length_take]
        omega
      clear hx
      go_wp2_with (refine wpList_alloc_blk rfl 56 rfl (sec se0) zSeL ?_)
      intro wa a1 a2 a3
      obtain ⟨gA, hgA⟩ : ∃ g, wr.heap.size = g := ⟨_, rfl⟩
      have A1 := Lib.hid a1
      have H3a := Lib.hid (H3.out.below a3 H3.out.lt)
      have HOa := Lib.hid (HO.out.below a3 (Nat.le_refl _))
      have hlt := H3.out.lt
      have HWa := Lib.hid (HW.out.trans (a3.mono (by omega)))
      have hne := World.ownsRow.lt HO.out
      rw [hgA] at A1 hne ⊢
      clear a1 a3 H3 HO HW c0 c1 c2 ca
      go_wp2_with (refine wpList_store_to rfl 56 _ _ rfl gA (sec x) (sec se0) 56 rfl rfl A1.out sSeL rfl (sec_all _) ?_)
      intro wb e1 e2 e3 e4
      have H3b := Lib.hid (H3a.out.same (e4 g3 (by omega)))
      have HOb : Hid (OwnE SeK 58 wb G o (l.take i)) := by
        refine ownsRow_but HOa.out (fun e => ?_) e4
        have := (hne gA e).2
        omega
      have HWb := Lib.hid (HWa.out.trans (e3.mono (by omega)))
      have d0 := e1.at_ 0 _ rfl
      have d1 := e1.at_ 1 _ rfl
      have d2 := e1.at_ 2 _ rfl
      have cb := H3b.out.at_ 1 _ rfl
      have hsb : G ≤ wb.heap.size := by omega
      have hgb : g3 ≤ wb.heap.size := by omega
      clear e1 e2 e3 e4 a2 A1 H3a HOa HWa hne
      have HOc : Hid (OwnE SeK 58 (wb.alloc (.cells (sec x).toArray 58)) G o (l.take i)) := HOb.out.alloc _
      have H3c : Hid (Blk (wb.alloc (.cells (sec x).toArray 58)) g3 [.int .i64 t, o] 30) := H3b.out.alloc _
      have HWc : Hid (Below g3 w4 (wb.alloc (.cells (sec x).toArray 58))) := HWb.out.alloc (by omega) _
      go_wp2_with (at_builtin; refine wpList_appE (E := SeK) rfl _ _ 28 rfl 58 24 Try.underlying28 kindSe G _ _ _ (l.take i) [x] rfl HOc.out rfl (RdE.one wb 58 x) (by simp) ?d1 ?d2 ?d3 ?_)
      case d1 => rw [HOL.out]; have := HL.out; simp only [List.length_cons, List.length_nil]; omega
      case d2 => rw [HOL.out]; have := HL.out; simp only [List.length_cons, List.length_nil]; omega
      case d3 => simp; omega
      intro v9 w9 ho9 hb9 hg9 _
      rw [← HT.out] at ho9
      have H39 := Lib.hid (H3c.out.below hb9 hg3G)
      have HW9 := Lib.hid (HWc.out.trans (hb9.mono (by omega)))
      have HO9 := Lib.hid ho9
      have hs9 : G ≤ w9.heap.size := by
        have := hb9.size
        simp at this
        omega
      clear ho9 hb9 hg9 HOb HOc H3b H3c HWb HWc d0 d1 d2 cb
      obtain ⟨Ao, co, ho, -, -⟩ := HO9.out.rd.shape
      obtain ⟨LL, hLL⟩ : ∃ LL, (l.take (i + 1)).length = LL := ⟨_, rfl⟩
      rw [hLL] at ho
      subst ho
      clear hLL
      have cb := H39.out.at_ 1 _ rfl
      have cf := H39.out.frozen 1
      have H3d : Hid (Blk (w9.setCell ⟨g3, 1, none⟩ (.slice Ao LL co)) g3 [.int .i64 t, (.slice Ao LL co)] 30) := H39.out.set 1 (.slice Ao LL co)
      have HOd : Hid (OwnE SeK 58 (w9.setCell ⟨g3, 1, none⟩ (.slice Ao LL co)) G (.slice Ao LL co) (l.take (i + 1))) := ownsRow_same HO9.out (fun k hk => heap_setCell_other w9 ⟨g3, 1, none⟩ k (.slice Ao LL co) (by show k ≠ g3; omega))
      have HWd : Hid (Below g3 w4 (w9.setCell ⟨g3, 1, none⟩ (.slice Ao LL co))) := HW9.out.setCell (Nat.le_refl _) _
      have hsd : G ≤ (w9.setCell ⟨g3, 1, none⟩ (.slice Ao LL co)).heap.size := by simp; omega
      go_wp2
      go_roundw
      case rel => exact ⟨i + 1, _, by omega, by go_num, H3d, HOd, HWd, hsd⟩
      case measure => simp [intOf]; omega
    · have hE : i = n := by omega
      subst hE
      have HF : Hid (l.take i = l) := List.take_of_length_le (by rw [HN.out]; exact Nat.le_refl _)
      rw [HF.out] at HO
      have X1r := Lib.hid (X1.out.below HW.out hg13)
      obtain ⟨Ao, co, ho, -, -⟩ := HO.out.rd.shape
      obtain ⟨LL, hLL⟩ : ∃ LL, l.length = LL := ⟨_, rfl⟩
      rw [hLL] at ho
      subst ho
      clear hLL
      have cb0 := H3.out.at_ 0 _ rfl
      have cb := H3.out.at_ 1 _ rfl
      go_wp2_with (refine wpList_store_to rfl 30 _ _ rfl g1 [.int .i64 t, .slice Ao LL co] [.int .i64 0, .slice none 0 0] 30 rfl rfl X1r.out sBK rfl (book_one _ _ _ _) ?_)
      intro w20 e1 e2 e3 e4
      go_wp2
      refine bodyPost_ret (v := .agg [.int .i64 t, Value.slice Ao LL co].toArray) ?_ rfl ?_
      · exact ret_blkUL rfl _ _ g1 30 [.int .i64 t, .slice Ao LL co] rfl e1 d30 HU.out HD.out sBK
      · exact ⟨_, rfl, OwnE.rd (ownsRow_same HO.out (fun k hk => e4 k (by omega))), HB.out.trans ((HW.out.mono hw3).trans (e3.mono hw1))⟩
end Go.Proofs.Ytjcombbmngpkpaa

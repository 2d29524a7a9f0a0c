/-
  The program's orders: one part taken behind the other; after a fault nothing more is taken. Each theorem states its own conditions.
-/
import Derived.Test.YtmlpiembglmggaaNU
import Derived.Test.YtmlpiembglmggaaRZ
namespace Go.Proofs.Ytmlpiembglmggaa
open Go.RowKit

theorem szSl1 : (Try.prog.info? 22).map (·.size) = some 1 := by kernel_rfl
theorem szErr1 : (Try.prog.info? 25).map (·.size) = some 1 := by kernel_rfl
/-- Bytes of one's own stay where an older block is written. -/
theorem Own.storedB {e : TypeId} {w w' : World} {base g : Nat} {v : Value} {l : List UInt8} (h : Own e w base v l) (hg : g < base) (ho : ∀ k, k ≠ g → w'.heap[k]? = w.heap[k]?) : Own e w' base v l := by
  refine ⟨h.1, ?_⟩
  rcases h.2 with hn | ⟨q, cap, cur, rfl, hg0, hg', r⟩
  · exact .inl hn
  · exact .inr ⟨q, cap, cur, rfl, hg0, by rw [ho q (by omega)]; exact hg', r⟩
theorem Own.one {e : TypeId} {w : World} {base : Nat} {v : Value} {l : List UInt8} (h : Own e w base v l) : v.oneCell' = true := by
  obtain ⟨A, n, c, rfl⟩ := h.isSlice
  rfl
/-- What is left and the fault so far, in memory: in block g. -/
def PSt (g : Nat) (s : List UInt8 × Nat) (w : World) : Prop := ∃ v, Blk w g [v, .int .i64 (s.2 : Int)] 66 ∧ Own 5 w (g + 1) v s.1
def stN (s : List UInt8 × Nat) : Int × List UInt8 × Nat := if s.2 = 0 then (zag (takeN s.1).1, (takeN s.1).2) else (0, s)
def stS (m : Int) (s : List UInt8 × Nat) : List UInt8 × List UInt8 × Nat := if s.2 = 0 then takeS s.1 m else ([], s)
def stL (k m : Int) (s : List UInt8 × Nat) : List ByteArray × List UInt8 × Nat := if s.2 = 0 then takeL s.1 k m else ([], s)

set_option maxRecDepth 100000 in
set_option maxHeartbeats 4000000 in
/-- No fault so far. -/
theorem partN_zero (g : Nat) (v : Value) (l : List UInt8) (w : World) (hg : Blk w g [v, .int .i64 0] 66) (hr : Rd w.heap.size w v l) (hl : l.length ≤ 1000000) :
    Calls Try.prog 36 #[.pointer (some ⟨g, 0, none⟩)] w (fun e w' => ∃ v', e = .returned (.int .i64 (zag (takeN l).1)) ∧ Blk w' g [v', .int .i64 ((takeN l).2.2 : Int)] 66 ∧ Own 5 w' (g + 1) v' (takeN l).2.1 ∧ Below g w w') := by
  obtain ⟨A, c, rfl, -, -⟩ := hr.shape
  have X := Lib.hid hg
  have HR := Lib.hid hr
  have HL := Lib.hid hl
  have hlt := hg.lt
  clear hr hl hg
  go_enter Try.func36, Try.ntmps36
  have c0 := X.out.at_ 0 _ rfl
  have c1 := X.out.at_ 1 _ rfl
  go_wp2_with fail
  refine (takeInt_any (.slice A l.length c) l w HR.out (by have := HL.out; omega)).mono ?_
  rintro e w1 ⟨vr, rfl, hown, hb⟩
  obtain ⟨T, hT⟩ : ∃ T, takeN l = T := ⟨_, rfl⟩
  have HT := Lib.hid hT
  rw [hT] at hown ⊢
  obtain ⟨t0, t1, t2⟩ := T
  dsimp only at hown ⊢
  have X1 := Lib.hid (X.out.below hb hlt)
  have HB := Lib.hid (hb.mono (Nat.le_of_lt hlt))
  have HO := Lib.hid (hown.base (base' := g + 1) hlt)
  have h1 := hown.one
  clear hT hb hown c0 c1 X
  go_wp2_with (refine wpList_store_fld rfl 22 _ _ rfl g 0 [.slice A l.length c, .int .i64 0] vr 66 rfl rfl X1.out szSl1 (by show 0 < 2; decide) h1 ?_)
  intro w2 e1 e2 e3 e4
  have X2 := Lib.hid e1
  have HB2 := Lib.hid (HB.out.trans e3)
  have HO2 := Lib.hid (HO.out.storedB (Nat.lt_succ_self g) e4)
  clear e1 e2 e3 e4 X1 HB HO h1
  go_wp2_with (refine wpList_store_fld rfl 25 _ _ rfl g 1 [vr, .int .i64 0] (.int .i64 (t2 : Int)) 66 rfl rfl X2.out szErr1 (by show 1 < 2; decide) rfl ?_)
  intro w3 e1 e2 e3 e4
  have X3 := Lib.hid e1
  have HB3 := Lib.hid (HB2.out.trans e3)
  have HO3 := Lib.hid (HO2.out.storedB (Nat.lt_succ_self g) e4)
  clear e1 e2 e3 e4 X2 HB2 HO2
  go_wp2
  go_ret
  rw [HT.out]
  exact ⟨vr, rfl, X3.out, HO3.out, HB3.out⟩
set_option maxRecDepth 100000 in
set_option maxHeartbeats 4000000 in
theorem partN_err (g : Nat) (v : Value) (f : Nat) (w : World) (hg : Blk w g [v, .int .i64 (f : Int)] 66) (hf : f ≠ 0) :
    Calls Try.prog 36 #[.pointer (some ⟨g, 0, none⟩)] w (One (.int .i64 0) w) := by
  have hne : ((f : Int) == 0) = false := by rw [beq_eq_false_iff_ne]; omega
  have c1 := hg.at_ 1 _ rfl
  clear hg hf
  go_enter Try.func36, Try.ntmps36
  go_wp2
  go_ret
  exact ⟨rfl, Below.refl _ _⟩
/-- Behind any fault. -/
theorem partN_any (g : Nat) (s : List UInt8 × Nat) (w : World) (h : PSt g s w) (hl : s.1.length ≤ 1000000) :
    Calls Try.prog 36 #[.pointer (some ⟨g, 0, none⟩)] w (fun e w' => e = .returned (.int .i64 (stN s).1) ∧ PSt g (stN s).2 w' ∧ Below g w w') := by
  obtain ⟨v, h1, h2⟩ := h
  obtain ⟨l, f⟩ := s
  by_cases hf : f = 0
  · subst hf
    refine (partN_zero g v l w h1 h2.rd hl).mono ?_
    rintro e w' ⟨v', rfl, hx, ho, hb⟩
    unfold stN
    rw [if_pos rfl]
    exact ⟨rfl, ⟨v', hx, ho⟩, hb⟩
  · refine (partN_err g v f w h1 hf).mono ?_
    rintro e w' ⟨rfl, hb⟩
    unfold stN
    rw [if_neg hf]
    exact ⟨rfl, ⟨v, h1.below hb h1.lt, h2.below hb (Nat.le_refl _)⟩, hb.mono (Nat.le_of_lt h1.lt)⟩
set_option maxRecDepth 100000 in
set_option maxHeartbeats 4000000 in
/-- No fault so far. -/
theorem partS_zero (g : Nat) (v : Value) (l : List UInt8) (m : Int) (m0 : -9223372036854775808 ≤ m) (m1 : m ≤ 9223372036854775807) (w : World) (hg : Blk w g [v, .int .i64 0] 66) (hr : Rd w.heap.size w v l) (hl : l.length ≤ 1000000) :
    Calls Try.prog 37 #[.pointer (some ⟨g, 0, none⟩), .int .i64 m] w (fun e w' => ∃ v', e = .returned (txt (takeS l m).1) ∧ Blk w' g [v', .int .i64 ((takeS l m).2.2 : Int)] 66 ∧ Own 5 w' (g + 1) v' (takeS l m).2.1 ∧ Below g w w') := by
  obtain ⟨A, c, rfl, -, -⟩ := hr.shape
  have X := Lib.hid hg
  have HR := Lib.hid hr
  have HL := Lib.hid hl
  have hlt := hg.lt
  clear hr hl hg
  go_enter Try.func37, Try.ntmps37
  have c0 := X.out.at_ 0 _ rfl
  have c1 := X.out.at_ 1 _ rfl
  go_wp2_with fail
  refine (takeText_any (.slice A l.length c) l m w HR.out m0 m1 (by have := HL.out; omega)).mono ?_
  rintro e w1 ⟨vr, rfl, hown, hb⟩
  obtain ⟨T, hT⟩ : ∃ T, takeS l m = T := ⟨_, rfl⟩
  have HT := Lib.hid hT
  rw [hT] at hown ⊢
  obtain ⟨t0, t1, t2⟩ := T
  dsimp only at hown ⊢
  have X1 := Lib.hid (X.out.below hb hlt)
  have HB := Lib.hid (hb.mono (Nat.le_of_lt hlt))
  have HO := Lib.hid (hown.base (base' := g + 1) hlt)
  have h1 := hown.one
  clear hT hb hown c0 c1 X
  go_wp2_with (refine wpList_store_fld rfl 22 _ _ rfl g 0 [.slice A l.length c, .int .i64 0] vr 66 rfl rfl X1.out szSl1 (by show 0 < 2; decide) h1 ?_)
  intro w2 e1 e2 e3 e4
  have X2 := Lib.hid e1
  have HB2 := Lib.hid (HB.out.trans e3)
  have HO2 := Lib.hid (HO.out.storedB (Nat.lt_succ_self g) e4)
  clear e1 e2 e3 e4 X1 HB HO h1
  go_wp2_with (refine wpList_store_fld rfl 25 _ _ rfl g 1 [vr, .int .i64 0] (.int .i64 (t2 : Int)) 66 rfl rfl X2.out szErr1 (by show 1 < 2; decide) rfl ?_)
  intro w3 e1 e2 e3 e4
  have X3 := Lib.hid e1
  have HB3 := Lib.hid (HB2.out.trans e3)
  have HO3 := Lib.hid (HO2.out.storedB (Nat.lt_succ_self g) e4)
  clear e1 e2 e3 e4 X2 HB2 HO2
  go_wp2
  go_ret
  rw [HT.out]
  exact ⟨vr, rfl, X3.out, HO3.out, HB3.out⟩
set_option maxRecDepth 100000 in
set_option maxHeartbeats 4000000 in
theorem partS_err (g : Nat) (v : Value) (f : Nat) (m : Int) (w : World) (hg : Blk w g [v, .int .i64 (f : Int)] 66) (hf : f ≠ 0) :
    Calls Try.prog 37 #[.pointer (some ⟨g, 0, none⟩), .int .i64 m] w (One (txt []) w) := by
  have hne : ((f : Int) == 0) = false := by rw [beq_eq_false_iff_ne]; omega
  have c1 := hg.at_ 1 _ rfl
  clear hg hf
  go_enter Try.func37, Try.ntmps37
  go_wp2
  go_ret
  exact ⟨rfl, Below.refl _ _⟩
/-- Behind any fault. -/
theorem partS_any (g : Nat) (s : List UInt8 × Nat) (m : Int) (m0 : -9223372036854775808 ≤ m) (m1 : m ≤ 9223372036854775807) (w : World) (h : PSt g s w) (hl : s.1.length ≤ 1000000) :
    Calls Try.prog 37 #[.pointer (some ⟨g, 0, none⟩), .int .i64 m] w (fun e w' => e = .returned (txt (stS m s).1) ∧ PSt g (stS m s).2 w' ∧ Below g w w') := by
  obtain ⟨v, h1, h2⟩ := h
  obtain ⟨l, f⟩ := s
  by_cases hf : f = 0
  · subst hf
    refine (partS_zero g v l m m0 m1 w h1 h2.rd hl).mono ?_
    rintro e w' ⟨v', rfl, hx, ho, hb⟩
    unfold stS
    rw [if_pos rfl]
    exact ⟨rfl, ⟨v', hx, ho⟩, hb⟩
  · refine (partS_err g v f m w h1 hf).mono ?_
    rintro e w' ⟨rfl, hb⟩
    unfold stS
    rw [if_neg hf]
    exact ⟨rfl, ⟨v, h1.below hb h1.lt, h2.below hb (Nat.le_refl _)⟩, hb.mono (Nat.le_of_lt h1.lt)⟩
set_option maxRecDepth 100000 in
set_option maxHeartbeats 4000000 in
/-- No fault so far. -/
theorem partL_zero (g : Nat) (v : Value) (l : List UInt8) (k m : Int) (k0 : -9223372036854775808 ≤ k) (k1 : k ≤ 9223372036854775807) (m0 : -9223372036854775808 ≤ m) (m1 : m ≤ 9223372036854775807) (w : World) (hg : Blk w g [v, .int .i64 0] 66) (hr : Rd w.heap.size w v l) (hl : l.length ≤ 1000000) :
    Calls Try.prog 40 #[.pointer (some ⟨g, 0, none⟩), .int .i64 k, .int .i64 m] w (fun e w' => ∃ nv v', e = .returned nv ∧ OwnS 9 w' (g + 1) nv (takeL l k m).1 ∧ Blk w' g [v', .int .i64 ((takeL l k m).2.2 : Int)] 66 ∧ Own 5 w' (g + 1) v' (takeL l k m).2.1 ∧ Below g w w') := by
  obtain ⟨A, c, rfl, -, -⟩ := hr.shape
  have X := Lib.hid hg
  have HR := Lib.hid hr
  have HL := Lib.hid hl
  have hlt := hg.lt
  clear hr hl hg
  go_enter Try.func40, Try.ntmps40
  have c0 := X.out.at_ 0 _ rfl
  have c1 := X.out.at_ 1 _ rfl
  go_wp2_with fail
  refine (takeList_any (.slice A l.length c) l k m w HR.out k0 k1 m0 m1 (by have := HL.out; omega)).mono ?_
  rintro e w1 ⟨nv, vr, rfl, hnv, hown, hb⟩
  obtain ⟨T, hT⟩ : ∃ T, takeL l k m = T := ⟨_, rfl⟩
  have HT := Lib.hid hT
  rw [hT] at hown hnv ⊢
  obtain ⟨t0, t1, t2⟩ := T
  dsimp only at hown hnv ⊢
  have X1 := Lib.hid (X.out.below hb hlt)
  have HB := Lib.hid (hb.mono (Nat.le_of_lt hlt))
  have HO := Lib.hid (hown.base (base' := g + 1) hlt)
  have HN := Lib.hid (hnv.base (base' := g + 1) hlt)
  have h1 := hown.one
  clear hT hb hown c0 c1 hnv X
  go_wp2_with (refine wpList_store_fld rfl 22 _ _ rfl g 0 [.slice A l.length c, .int .i64 0] vr 66 rfl rfl X1.out szSl1 (by show 0 < 2; decide) h1 ?_)
  intro w2 e1 e2 e3 e4
  have X2 := Lib.hid e1
  have HB2 := Lib.hid (HB.out.trans e3)
  have HO2 := Lib.hid (HO.out.storedB (Nat.lt_succ_self g) e4)
  have HN2 := Lib.hid (HN.out.stored (Nat.lt_succ_self g) e4)
  clear e1 e2 e3 e4 X1 HB HO h1
  go_wp2_with (refine wpList_store_fld rfl 25 _ _ rfl g 1 [vr, .int .i64 0] (.int .i64 (t2 : Int)) 66 rfl rfl X2.out szErr1 (by show 1 < 2; decide) rfl ?_)
  intro w3 e1 e2 e3 e4
  have X3 := Lib.hid e1
  have HB3 := Lib.hid (HB2.out.trans e3)
  have HO3 := Lib.hid (HO2.out.storedB (Nat.lt_succ_self g) e4)
  have HN3 := Lib.hid (HN2.out.stored (Nat.lt_succ_self g) e4)
  clear e1 e2 e3 e4 X2 HB2 HO2
  go_wp2
  go_ret
  rw [HT.out]
  exact ⟨nv, vr, rfl, HN3.out, X3.out, HO3.out, HB3.out⟩
set_option maxRecDepth 100000 in
set_option maxHeartbeats 4000000 in
theorem partL_err (g : Nat) (v : Value) (f : Nat) (k m : Int) (w : World) (hg : Blk w g [v, .int .i64 (f : Int)] 66) (hf : f ≠ 0) :
    Calls Try.prog 40 #[.pointer (some ⟨g, 0, none⟩), .int .i64 k, .int .i64 m] w (One (.slice none 0 0) w) := by
  have hne : ((f : Int) == 0) = false := by rw [beq_eq_false_iff_ne]; omega
  have c1 := hg.at_ 1 _ rfl
  clear hg hf
  go_enter Try.func40, Try.ntmps40
  go_wp2
  go_ret
  exact ⟨rfl, Below.refl _ _⟩
/-- Behind any fault. -/
theorem partL_any (g : Nat) (s : List UInt8 × Nat) (k m : Int) (k0 : -9223372036854775808 ≤ k) (k1 : k ≤ 9223372036854775807) (m0 : -9223372036854775808 ≤ m) (m1 : m ≤ 9223372036854775807) (w : World) (h : PSt g s w) (hl : s.1.length ≤ 1000000) :
    Calls Try.prog 40 #[.pointer (some ⟨g, 0, none⟩), .int .i64 k, .int .i64 m] w (fun e w' => ∃ nv, e = .returned nv ∧ OwnS 9 w' (g + 1) nv (stL k m s).1 ∧ PSt g (stL k m s).2 w' ∧ Below g w w') := by
  obtain ⟨v, h1, h2⟩ := h
  obtain ⟨l, f⟩ := s
  by_cases hf : f = 0
  · subst hf
    refine (partL_zero g v l k m k0 k1 m0 m1 w h1 h2.rd hl).mono ?_
    rintro e w' ⟨nv, v', rfl, hn, hx, ho, hb⟩
    unfold stL
    rw [if_pos rfl]
    exact ⟨nv, rfl, hn, ⟨v', hx, ho⟩, hb⟩
  · refine (partL_err g v f k m w h1 hf).mono ?_
    rintro e w' ⟨rfl, hb⟩
    unfold stL
    rw [if_neg hf]
    exact ⟨_, rfl, OwnS.nil _ _ _, ⟨v, h1.below hb h1.lt, h2.below hb (Nat.le_refl _)⟩, hb.mono (Nat.le_of_lt h1.lt)⟩
end Go.Proofs.Ytmlpiembglmggaa

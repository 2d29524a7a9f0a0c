/-
  The program's Take and Scan. Each theorem states its own conditions.
-/
import Derived.Test.YteckenlbelgknaaCB
namespace Go.Proofs.Yteckenlbelgknaa
open Go.RowKit

theorem takeC_lens (l : List UInt8) : (takeC l).1.length ≤ l.length ∧ (takeC l).2.1.length ≤ l.length := by
  cases l with
  | nil => exact ⟨Nat.zero_le _, Nat.zero_le _⟩
  | cons x t =>
    have h := takeN_rest t
    rw [takeC]
    repeat' split
    all_goals simp only [List.length_nil, List.length_cons, List.length_take, List.length_drop]
    all_goals omega
set_option maxRecDepth 100000 in
set_option maxHeartbeats 4000000 in
theorem crTake_any (l : List UInt8) (v : Value) (w : World) (hr : Rd w.heap.size w v l) (hl : l.length ≤ 1000000) : Calls Try.prog 9 #[v] w (TookC (takeC l) w) := by
  obtain ⟨A, c, rfl, hc, hm⟩ := hr.shape
  have HR := Lib.hid hr
  have hln := takeC_lens l
  obtain ⟨x, r, er, hY⟩ : ∃ a b c, takeC l = (a, b, c) := ⟨_, _, _, rfl⟩
  have HY := Lib.hid hY
  rw [hY] at hln ⊢
  dsimp only at hln
  clear hr hY
  go_enter Try.func9, Try.ntmps9
  go_wp2_with fail
  refine (newEffects_any w).mono ?_
  rintro e w1 ⟨p, rfl, ht, hb⟩
  have HT := Lib.hid ht
  have HB := Lib.hid hb
  have hs1 := hb.size
  clear ht hb
  go_wp2_with fail
  refine (cutFrame_any p _ l w.heap.size w.heap.size w1 HT.out (HR.out.below HB.out) hs1).mono ?_
  rintro e w2 ⟨v1, v2, rfl, h1, h2, hb2⟩
  rw [HY.out] at h1 h2 ⊢
  dsimp only at h1 h2 ⊢
  have H1 := Lib.hid h1
  have H2 := Lib.hid h2
  have HB2 := Lib.hid (HB.out.trans (hb2.mono hs1))
  have hs2 := HB2.out.size
  clear h1 h2 hb2
  go_wp2_with fail
  refine (crDetached_any v1 x w2 (H1.out.more hs2) (by omega)).mono ?_
  rintro e w3 ⟨u1, rfl, ho1, hb3⟩
  have O1 := Lib.hid ho1
  have hs3 := hb3.size
  have HB3 := Lib.hid (HB2.out.trans (hb3.mono hs2))
  have H3 := Lib.hid (H2.out.below (hb3.mono hs2))
  clear ho1 hb3
  go_wp2_with fail
  refine (crDetached_any v2 r w3 (H3.out.more (Nat.le_trans hs2 hs3)) (by omega)).mono ?_
  rintro e w4 ⟨u2, rfl, ho2, hb4⟩
  have O2 := Lib.hid ho2
  have O3 := Lib.hid (O1.out.below hb4 (Nat.le_refl _))
  have HB4 := Lib.hid (HB3.out.trans (hb4.mono (Nat.le_trans hs2 hs3)))
  clear ho2 hb4
  go_wp2
  go_ret3
  exact ⟨u1, u2, rfl, O3.out.rd, O2.out.rd, HB4.out⟩
/-- A row of one's own of byte slices of one's own. -/
def OwnNR (base : Nat) (w : World) (v : Value) (ls : List (List UInt8)) : Prop :=
  ∃ vs : List SlT, vs.length = ls.length ∧ OwnE SlK 22 w base v vs ∧ ∀ j, j < ls.length → Own 5 w base (slv (vs.getD j sl0)) (ls.getD j [])
theorem OwnNR.below {base : Nat} {w w' : World} {v : Value} {ls : List (List UInt8)} (h : OwnNR base w v ls) (hb : Below w.heap.size w w') : OwnNR base w' v ls := by
  obtain ⟨vs, h1, h2, h3⟩ := h
  exact ⟨vs, h1, h2.below hb (Nat.le_refl _), fun j hj => (h3 j hj).below hb (Nat.le_refl _)⟩
theorem OwnNR.rd {base : Nat} {w : World} {v : Value} {ls : List (List UInt8)} (h : OwnNR base w v ls) : RdM w.heap.size w v ls := by
  obtain ⟨vs, h1, h2, h3⟩ := h
  exact ⟨vs, h1, h2.rd, fun j hj => (h3 j hj).rd⟩
/-- One slice more. -/
theorem OwnNR.snoc {base : Nat} {w w' : World} {v v' : Value} {ls : List (List UInt8)} {vs : List SlT} {x : SlT} {l : List UInt8} (hlen : vs.length = ls.length) (hv : OwnE SlK 22 w base v vs) (ho : OwnE SlK 22 w' base v' (vs ++ [x]))
    (hr : ∀ j, j < ls.length → Own 5 w base (slv (vs.getD j sl0)) (ls.getD j [])) (hx : Own 5 w base (slv x) l) (hg : w.grownBy w' v.ownBlock) : OwnNR base w' v' (ls ++ [l]) := by
  refine ⟨vs ++ [x], by simp [hlen], ho, fun j hj => ?_⟩
  have hj2 : j < ls.length + 1 := by simpa using hj
  rw [getD_snocC vs x sl0 j (by omega), getD_snocC ls l [] j hj2, hlen]
  by_cases h : j < ls.length
  · rw [if_pos h, if_pos h]
    exact ownsRow_other (by decide) (hr j h) hv hg
  · rw [if_neg h, if_neg h]
    exact ownsRow_other (by decide) hx hv hg
theorem Tab.grown {B base : Nat} {w w' : World} {p v : Value} {vs : List SlT} (h : Tab B w p) (hv : OwnE SlK 22 w base v vs) (hg : w.grownBy w' v.ownBlock) : Tab B w' p := by
  obtain ⟨g, rfl, h1, h2⟩ := h
  refine ⟨g, rfl, h1, h2.same (hg.block g h2.lt ?_)⟩
  exact fun e => hv.not_blk h2 (by decide) e.symm
set_option maxRecDepth 100000 in
set_option maxHeartbeats 4000000 in
theorem crScan_any (l : List UInt8) (v : Value) (w : World) (hr : Rd w.heap.size w v l) (hl : l.length ≤ 1000000) : Calls Try.prog 19 #[v] w (ScannedC (scanC l) w) := by
  obtain ⟨A, c, rfl, hc, hm⟩ := hr.shape
  unfold maxLen at hm
  obtain ⟨n, hn⟩ : ∃ q, l.length = q := ⟨_, rfl⟩
  have HN := Lib.hid hn
  have HR := Lib.hid hr
  rw [hn] at HR hc hl
  rw [hn]
  clear hr hn
  obtain ⟨Y, hY⟩ : ∃ y, scanC l = y := ⟨_, rfl⟩
  have HY := Lib.hid hY
  rw [hY]
  clear hY
  go_enter Try.func19, Try.ntmps19
  go_wp2_with fail
  refine (newEffects_any w).mono ?_
  rintro e w1 ⟨p, rfl, ht, hb⟩
  have HT0 := Lib.hid ht
  have HB0 := Lib.hid hb
  clear ht hb
  go_wp2
  go_loopw [5, 6] (fun vo vb wr => ∃ (acc : List (List UInt8)) (r : List UInt8) (Ar : Option Addr) (cr : Nat), vb = .slice Ar r.length cr ∧ cr ≤ 9223372036854775807 ∧ acc.length + r.length ≤ n ∧ Hid (Y = (acc ++ (scanC r).1, n - r.length + (scanC r).2)) ∧ Hid (Rd w.heap.size wr vb r) ∧ Hid (OwnNR w.heap.size wr vo acc) ∧ Hid (Tab w.heap.size wr p) ∧ Hid (Below w.heap.size w wr)) (fun _ vb _ => sliceLen vb)
  case atStart =>
    refine ⟨[], l, A, c, by rw [HN.out], by omega, by rw [HN.out]; simp, Lib.hid (by rw [← HY.out, HN.out]; simp), ?_, Lib.hid ⟨[], rfl, OwnE.nil _ _ _, fun j hj => by cases hj⟩, HT0, HB0⟩
    exact Lib.hid (HR.out.below HB0.out)
  case round =>
    clear HB0 HT0
    obtain ⟨acc, r, Ar, cr, rfl, hcr, hle, HK, HRr, HO, HT, HB⟩ := hrel
    have hsz := HB.out.size
    obtain ⟨nr, hnr⟩ : ∃ q, r.length = q := ⟨_, rfl⟩
    have HNR := Lib.hid hnr
    rw [hnr] at HRr hle ⊢
    clear hnr
    go_wp2_with fail
    refine (cutFrame_any p (.slice Ar nr cr) r w.heap.size w.heap.size wr HT.out HRr.out hsz).mono ?_
    rintro e w3 ⟨v1, v2, rfl, h1, h2, hb⟩
    have HO3 := Lib.hid (HO.out.below hb)
    have HT3 := Lib.hid (HT.out.below hb (Nat.le_refl _))
    have HB3 := Lib.hid (HB.out.trans (hb.mono hsz))
    obtain ⟨x, r', er, hT⟩ : ∃ a b c, takeC r = (a, b, c) := ⟨_, _, _, rfl⟩
    rw [hT] at h1 h2 ⊢
    have HTC := Lib.hid hT
    have H1 := Lib.hid h1
    have H2 := Lib.hid h2
    have hs3 : w.heap.size ≤ w3.heap.size := HB3.out.size
    clear hT h1 h2 hb HO HB HT
    by_cases he : er = 0
    · subst he
      have hless := takeC_less r (by rw [HTC.out])
      have hyes := scanC_yes r (by rw [HTC.out])
      have hlx := (takeC_lens r).1
      rw [HTC.out] at hless hyes hlx
      dsimp only at hless hyes hlx
      rw [HNR.out] at hless hlx
      obtain ⟨A2, c2, hv2, hcc2, hm2⟩ := H2.out.shape
      subst hv2
      unfold maxLen at hm2
      obtain ⟨n2, hn2⟩ : ∃ q, r'.length = q := ⟨_, rfl⟩
      have HK2 : Hid (Y = ((acc ++ [x]) ++ (scanC r').1, n - r'.length + (scanC r').2)) := Lib.hid (by
        rw [HK.out, hyes, HNR.out, List.append_assoc]
        refine Prod.ext rfl ?_
        show n - nr + (nr - r'.length + (scanC r').2) = n - r'.length + (scanC r').2
        omega)
      have hlen2 : (acc ++ [x]).length + r'.length ≤ n := by simp only [List.length_append, List.length_cons, List.length_nil]; omega
      have HLS := Lib.hid hless
      clear hless hyes HK HTC
      go_wp2_with fail
      refine (crDetached_any v1 x w3 (H1.out.more hs3) (by omega)).mono ?_
      rintro e w4 ⟨u1, rfl, ho4, hb4⟩
      obtain ⟨A1, c1, hu1, hcc1, hm1⟩ := ho4.rd.shape
      subst hu1
      have hs4 : w.heap.size ≤ w4.heap.size := Nat.le_trans hs3 hb4.size
      have HX4 := Lib.hid (ho4.base hs3)
      have HO4 := HO3.out.below hb4
      have HT4 := Lib.hid (HT3.out.below hb4 (Nat.le_refl _))
      have HB4 := Lib.hid (HB3.out.trans (hb4.mono hs3))
      have H24 := Lib.hid (H2.out.below (hb4.mono hs3))
      obtain ⟨vs, hvs, hown, hrow⟩ := HO4
      have HOW := Lib.hid hown
      have HROW := Lib.hid hrow
      have HVS := Lib.hid hvs
      clear ho4 hb4 hcc1 hm1 HO3 HT3 HB3 H1 H2 hown hrow hvs
      go_wp2_with (at_builtin; refine wpList_appF (E := SlK) rfl _ _ 33 rfl 22 24 Try.underlying33 kindSl w.heap.size _ _ _ vs [(A1, x.length, c1)] rfl (HOW.out.alloc _) rfl (RdE.one w4 22 (A1, x.length, c1)) ?d1 ?d2 ?d3 ?_)
      case d1 => rw [HVS.out]; simp only [List.length_append, List.length_cons, List.length_nil] at hlen2 ⊢; omega
      case d2 => rw [HVS.out]; simp only [List.length_append, List.length_cons, List.length_nil] at hlen2 ⊢; omega
      case d3 => simp; omega
      intro v' we m1 m2 m3
      have hba : Below w4.heap.size w4 (w4.alloc (.cells (SlK.enc (A1, x.length, c1)).toArray 22)) := (Below.refl w4.heap.size w4).alloc (Nat.le_refl _) _
      have hAB : Below w.heap.size w4 we := (hba.mono hs4).trans m2
      have HOe := Lib.hid (OwnNR.snoc HVS.out (HOW.out.alloc _) m1 (fun j hj => (HROW.out j hj).alloc _) (HX4.out.alloc _) m3)
      have HTe := Lib.hid ((HT4.out.below hba (Nat.le_refl _)).grown (HOW.out.alloc _) m3)
      have HBe : Hid (Below w.heap.size w we) := Lib.hid (HB4.out.trans hAB)
      have HRe := Lib.hid (H24.out.below hAB)
      clear m1 m2 m3 hba hAB HOW HROW HVS HB4 HT4 HX4
      go_wp2
      go_roundw
      case rel => exact ⟨acc ++ [x], r', A2, c2, by rw [hn2], hm2, hlen2, HK2, Lib.hid (by rw [← hn2]; exact HRe.out), HOe, HTe, HBe⟩
      case measure => simp only [sliceLen]; have := HLS.out; omega
    · have he1 : ((er : Int) != 0) = true := by simp; omega
      have hno := scanC_no r (by rw [HTC.out]; exact he)
      have HX : Hid (Y = (acc, n - nr)) := Lib.hid (by rw [HK.out, hno, HNR.out]; simp)
      have hsub : wrap64 ((n : Int) - (nr : Int)) = ((n - nr : Nat) : Int) := by unfold wrap64; omega
      clear hno
      go_wp2
      go_ret2
      rw [HX.out]
      have hsi : ((n - nr : Nat) : Int) = (n : Int) - (nr : Int) := by omega
      exact ⟨_, by rw [hsi]; rfl, HO3.out.rd, HB3.out⟩
end Go.Proofs.Yteckenlbelgknaa

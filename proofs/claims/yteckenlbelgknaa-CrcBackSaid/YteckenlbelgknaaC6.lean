/-
  The document's Scan; rows of byte slices in memory. Each theorem states its own conditions.
-/
import Derived.Test.YteckenlbelgknaaC5
import Derived.Test.YteckenlbelgknaaC2
import Derived.Test.YteckenlbelgknaaR4
import Derived.Test.YteckenlbelgknaaRS
namespace Go.Proofs.Yteckenlbelgknaa
open Go.RowKit

/-- A row of byte slices that is read. -/
def RdM (B : Nat) (w : World) (v : Value) (ls : List (List UInt8)) : Prop :=
  ∃ vs : List SlT, vs.length = ls.length ∧ RdE SlK B w v vs ∧ ∀ j, j < ls.length → Rd B w (slv (vs.getD j sl0)) (ls.getD j [])
/-- A row of one's own of byte slices that lie below block B. -/
def OwnM (B base : Nat) (w : World) (v : Value) (ls : List (List UInt8)) : Prop :=
  ∃ vs : List SlT, vs.length = ls.length ∧ OwnE SlK 22 w base v vs ∧ ∀ j, j < ls.length → Rd B w (slv (vs.getD j sl0)) (ls.getD j [])
theorem OwnM.below {B base : Nat} {w w' : World} {v : Value} {ls : List (List UInt8)} (h : OwnM B base w v ls) (hb : Below w.heap.size w w') (hB : B ≤ w.heap.size) : OwnM B base w' v ls := by
  obtain ⟨vs, h1, h2, h3⟩ := h
  exact ⟨vs, h1, h2.below hb (Nat.le_refl _), fun j hj => (h3 j hj).below (hb.mono hB)⟩
theorem OwnM.rd {B base : Nat} {w : World} {v : Value} {ls : List (List UInt8)} (h : OwnM B base w v ls) (hB : B ≤ w.heap.size) : RdM w.heap.size w v ls := by
  obtain ⟨vs, h1, h2, h3⟩ := h
  exact ⟨vs, h1, h2.rd, fun j hj => (h3 j hj).more hB⟩
theorem RdM.below {B : Nat} {w w' : World} {v : Value} {ls : List (List UInt8)} (h : RdM B w v ls) (hb : Below B w w') : RdM B w' v ls := by
  obtain ⟨vs, h1, h2, h3⟩ := h
  exact ⟨vs, h1, h2.below hb, fun j hj => (h3 j hj).below hb⟩
theorem RdM.more {B B' : Nat} {w : World} {v : Value} {ls : List (List UInt8)} (h : RdM B w v ls) (hB : B ≤ B') : RdM B' w v ls := by
  obtain ⟨vs, h1, h2, h3⟩ := h
  exact ⟨vs, h1, h2.more hB, fun j hj => (h3 j hj).more hB⟩
theorem kindSl : KindOf Try.prog 22 SlK 24 := kind_of (z := .slice none 0 0) (by kernel_rfl) rfl
theorem getD_snocC {α : Type} (l : List α) (x d : α) (j : Nat) (hj : j < l.length + 1) : (l ++ [x]).getD j d = if j < l.length then l.getD j d else x := by
  rw [List.getD_eq_getElem?_getD, List.getElem?_append]
  by_cases h : j < l.length
  · rw [if_pos h, if_pos h, List.getD_eq_getElem?_getD]
  · obtain rfl : j = l.length := by omega
    rw [if_neg h, if_neg h, Nat.sub_self]
    rfl
/-- One slice more. -/
theorem OwnM.snoc {B base : Nat} {w w' : World} {v' : Value} {ls : List (List UInt8)} {vs : List SlT} {x : SlT} {l : List UInt8} (hlen : vs.length = ls.length) (ho : OwnE SlK 22 w' base v' (vs ++ [x]))
    (hr : ∀ j, j < ls.length → Rd B w (slv (vs.getD j sl0)) (ls.getD j [])) (hx : Rd B w (slv x) l) (hb : Below B w w') : OwnM B base w' v' (ls ++ [l]) := by
  refine ⟨vs ++ [x], by simp [hlen], ho, fun j hj => ?_⟩
  have hj2 : j < ls.length + 1 := by simpa using hj
  rw [getD_snocC vs x sl0 j (by omega), getD_snocC ls l [] j hj2, hlen]
  by_cases h : j < ls.length
  · rw [if_pos h, if_pos h]
    exact (hr j h).below hb
  · rw [if_neg h, if_neg h]
    exact hx.below hb
def sliceLen : Value → Nat
  | .slice _ n _ => n
  | _ => 0
/-- The frames ahead of any bytes, and how many bytes they are. -/
def ScanO (B : Nat) (y : List (List UInt8) × Nat) (w : World) (e : Ending) (w' : World) : Prop :=
  ∃ v, e = .returned (.tuple #[v, .int .i64 (y.2 : Int)]) ∧ OwnM B w.heap.size w' v y.1 ∧ Below w.heap.size w w'
set_option maxRecDepth 100000 in
set_option maxHeartbeats 4000000 in
theorem rfScanC_any (v : Value) (l : List UInt8) (B : Nat) (w : World) (hr : Rd B w v l) (hB : B ≤ w.heap.size) (hl : l.length ≤ 1000000) : Calls Try.prog 20 #[v] w (ScanO B (scanC l) w) := by
  obtain ⟨A, c, rfl, hc, hm⟩ := hr.shape
  unfold maxLen at hm
  obtain ⟨n, hn⟩ : ∃ q, l.length = q := ⟨_, rfl⟩
  have HN := Lib.hid hn
  have HR := Lib.hid hr
  rw [hn] at HR hc hl
  rw [hn]
  clear hr hn
  obtain ⟨Y, hY⟩ : ∃ y, scanC l = y := ⟨_, rfl⟩
  have HY := Lib.hid hY
  rw [hY]
  clear hY
  go_enter Try.func20, Try.ntmps20
  have hba : Below w.heap.size w (w.alloc (.cells #[] 22)) := (Below.refl _ _).alloc (Nat.le_refl _) _
  have O0 : Hid (OwnM B w.heap.size (w.alloc (.cells #[] 22)) (.slice (some ⟨w.heap.size, 0, none⟩) 0 0) []) := Lib.hid ⟨[], rfl, OwnE.empty _ _ _ (Nat.le_refl _), fun j hj => by cases hj⟩
  have B0 := Lib.hid hba
  have R0 := Lib.hid (HR.out.below (hba.mono hB))
  clear hba
  go_wp2
  go_loopw [4, 5] (fun vo vb wr => ∃ (acc : List (List UInt8)) (r : List UInt8) (Ar : Option Addr) (cr : Nat), vb = .slice Ar r.length cr ∧ cr ≤ 9223372036854775807 ∧ acc.length + r.length ≤ n ∧ Hid (Y = (acc ++ (scanC r).1, n - r.length + (scanC r).2)) ∧ Hid (Rd B wr vb r) ∧ Hid (OwnM B w.heap.size wr vo acc) ∧ Hid (Below w.heap.size w wr)) (fun _ vb _ => sliceLen vb)
  case atStart =>
    refine ⟨[], l, A, c, by rw [HN.out], by omega, by rw [HN.out]; simp, Lib.hid (by rw [← HY.out, HN.out]; simp), ?_, O0, B0⟩
    have h := R0.out
    exact h
  case round =>
    clear O0 B0 R0
    obtain ⟨acc, r, Ar, cr, rfl, hcr, hle, HK, HRr, HO, HB⟩ := hrel
    have hsz := HB.out.size
    obtain ⟨nr, hnr⟩ : ∃ q, r.length = q := ⟨_, rfl⟩
    have HNR := Lib.hid hnr
    rw [hnr] at HRr hle ⊢
    clear hnr
    go_wp2_with fail
    refine (rfTakeC_any (.slice Ar nr cr) r B wr HRr.out (Nat.le_trans hB hsz)).mono ?_
    rintro e w3 ⟨v1, v2, rfl, h1, h2, hb⟩
    have HO3 := Lib.hid (HO.out.below hb (Nat.le_trans hB hsz))
    have HB3 := Lib.hid (HB.out.trans (hb.mono hsz))
    obtain ⟨x, r', er, hT⟩ : ∃ a b c, takeC r = (a, b, c) := ⟨_, _, _, rfl⟩
    rw [hT] at h1 h2 ⊢
    have HT := Lib.hid hT
    have H1 := Lib.hid h1
    have H2 := Lib.hid h2
    have hs3 : w.heap.size ≤ w3.heap.size := HB3.out.size
    clear hT h1 h2 hb HO HB
    by_cases he : er = 0
    · subst he
      have hless := takeC_less r (by rw [HT.out])
      have hyes := scanC_yes r (by rw [HT.out])
      rw [HT.out] at hless hyes
      dsimp only at hless hyes
      rw [HNR.out] at hless
      obtain ⟨A1, c1, hv1, hcc1, hm1⟩ := H1.out.shape
      obtain ⟨A2, c2, hv2, hcc2, hm2⟩ := H2.out.shape
      subst hv1 hv2
      unfold maxLen at hm2
      obtain ⟨n2, hn2⟩ : ∃ q, r'.length = q := ⟨_, rfl⟩
      have HK2 : Hid (Y = ((acc ++ [x]) ++ (scanC r').1, n - r'.length + (scanC r').2)) := Lib.hid (by
        rw [HK.out, hyes, HNR.out, List.append_assoc]
        refine Prod.ext rfl ?_
        show n - nr + (nr - r'.length + (scanC r').2) = n - r'.length + (scanC r').2
        omega)
      have hlen2 : (acc ++ [x]).length + r'.length ≤ n := by simp only [List.length_append, List.length_cons, List.length_nil]; omega
      obtain ⟨vs, hvs, hown, hrow⟩ := HO3.out
      have HOW := Lib.hid hown
      have HROW := Lib.hid hrow
      have HVS := Lib.hid hvs
      have HLS := Lib.hid hless
      clear hless hyes hown hrow hvs HO3 HK HT hcc1 hm1
      go_wp2_with (at_builtin; refine wpList_appF (E := SlK) rfl _ _ 33 rfl 22 24 Try.underlying33 kindSl w.heap.size _ _ _ vs [(A1, x.length, c1)] rfl (HOW.out.alloc _) rfl (RdE.one w3 22 (A1, x.length, c1)) ?d1 ?d2 ?d3 ?_)
      case d1 => rw [HVS.out]; simp only [List.length_append, List.length_cons, List.length_nil] at hlen2 ⊢; omega
      case d2 => rw [HVS.out]; simp only [List.length_append, List.length_cons, List.length_nil] at hlen2 ⊢; omega
      case d3 => simp; omega
      intro v' we m1 m2 m3
      have hba : Below w3.heap.size w3 (w3.alloc (.cells (SlK.enc (A1, x.length, c1)).toArray 22)) := (Below.refl w3.heap.size w3).alloc (Nat.le_refl _) _
      have hAB : Below w.heap.size w3 we := (hba.mono hs3).trans m2
      have HOe := Lib.hid (OwnM.snoc HVS.out m1 HROW.out H1.out (hAB.mono hB))
      have HBe : Hid (Below w.heap.size w we) := Lib.hid (HB3.out.trans hAB)
      have HRe := Lib.hid (H2.out.below (hAB.mono hB))
      clear m1 m2 m3 hba hAB HOW HROW HVS H1 H2 HB3
      go_wp2
      go_roundw
      case rel => exact ⟨acc ++ [x], r', A2, c2, by rw [hn2], hm2, hlen2, HK2, Lib.hid (by rw [← hn2]; exact HRe.out), HOe, HBe⟩
      case measure => simp only [sliceLen]; have := HLS.out; omega
    · have he1 : ((er : Int) != 0) = true := by simp; omega
      have hno := scanC_no r (by rw [HT.out]; exact he)
      have HX : Hid (Y = (acc, n - nr)) := Lib.hid (by rw [HK.out, hno, HNR.out]; simp)
      have hsub : wrap64 ((n : Int) - (nr : Int)) = ((n - nr : Nat) : Int) := by unfold wrap64; omega
      clear hno
      go_wp2
      go_ret2
      rw [HX.out]
      have hsi : ((n - nr : Nat) : Int) = (n : Int) - (nr : Int) := by omega
      exact ⟨u4, by rw [hsi]; rfl, HO3.out, HB3.out⟩
end Go.Proofs.Yteckenlbelgknaa

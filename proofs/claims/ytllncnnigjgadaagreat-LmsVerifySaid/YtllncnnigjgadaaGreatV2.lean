/-
  The document's lms: form, what a public key states, for every bytes.
-/
import Derived.Test.YtllncnnigjgadaaGreatV1
import Derived.Test.YtllncnnigjgadaaGreatRC
namespace Go.Proofs.YtllncnnigjgadaaGreat
open Go.RowKit

theorem ziTreeV : (Tryz.prog.info? 38).map (·.zero) = some (some (.agg (tcs Z16 Z32 0 0).toArray)) := by kernel_rfl
theorem sTreeV (I seed : List UInt8) (z y : Int) (hI : I.length = 16) (hs : seed.length = 32) : (Tryz.prog.info? 38).map (·.size) = some (tcs I seed z y).length := by rw [tcs_length I seed z y hI hs]; exact sTree5
theorem tcs_setz (I seed : List UInt8) (z y z' : Int) (hI : I.length = 16) (hs : seed.length = 32) : (tcs I seed z y).set 48 (.int .i64 z') = tcs I seed z' y := by
  unfold tcs
  rw [List.set_append_right _ _ (by rw [bys_length, hI]; omega), bys_length, hI, List.set_append_right _ _ (by rw [bys_length, hs]; omega), bys_length, hs]
  rfl
theorem tcs_sety (I seed : List UInt8) (z y y' : Int) (hI : I.length = 16) (hs : seed.length = 32) : (tcs I seed z y).set 49 (.int .i64 y') = tcs I seed z y' := by
  unfold tcs
  rw [List.set_append_right _ _ (by rw [bys_length, hI]; omega), bys_length, hI, List.set_append_right _ _ (by rw [bys_length, hs]; omega), bys_length, hs]
  rfl
theorem Z16l : Z16.length = 16 := by decide
theorem Z32l : Z32.length = 32 := by decide

/-- The height that four bytes tell; 0: none. -/
def hSel (b : List UInt8) : Nat := if be 4 101 = b then 1 else if be 4 102 = b then 2 else if be 4 103 = b then 3 else if be 4 104 = b then 4 else if be 4 5 = b then 5 else 0
theorem hSel_hit (b : List UInt8) (h : Nat) (hh : Ht h) (e : be 4 (knd h) = b) : hSel b = h := by
  subst e
  rcases hh with rfl | rfl | rfl | rfl | rfl <;> decide
theorem hSel_or (b : List UInt8) : (Ht (hSel b) ∧ be 4 (knd (hSel b)) = b) ∨ hSel b = 0 := by
  by_cases h1 : be 4 101 = b
  · left; subst h1; exact ⟨by unfold Ht; decide, by decide⟩
  · by_cases h2 : be 4 102 = b
    · left; subst h2; exact ⟨by unfold Ht; decide, by decide⟩
    · by_cases h3 : be 4 103 = b
      · left; subst h3; exact ⟨by unfold Ht; decide, by decide⟩
      · by_cases h4 : be 4 104 = b
        · left; subst h4; exact ⟨by unfold Ht; decide, by decide⟩
        · by_cases h5 : be 4 5 = b
          · left; subst h5; exact ⟨by unfold Ht; decide, by decide⟩
          · right; simp [hSel, h1, h2, h3, h4, h5]
/-- What the search has found ahead of a height. -/
def hVal (b : List UInt8) (h : Nat) : Nat := if hSel b < h then hSel b else 0
theorem hVal_hit (b : List UInt8) (h : Nat) (hh : Ht h) (e : be 4 (knd h) = b) : hVal b (h + 1) = h := by unfold hVal; rw [hSel_hit b h hh e, if_pos (by omega)]
theorem hVal_miss (b : List UInt8) (h : Nat) (hh : Ht h) (e : be 4 (knd h) ≠ b) : hVal b (h + 1) = hVal b h := by
  have hne : hSel b ≠ h := fun he => by
    rcases hSel_or b with ⟨_, h2⟩ | h2
    · exact e (by rw [he] at h2; exact h2)
    · have := hh; unfold Ht at this; omega
  unfold hVal
  by_cases h1 : hSel b < h
  · rw [if_pos (by omega), if_pos h1]
  · rw [if_neg (by omega), if_neg h1]
theorem hVal_end (b : List UInt8) : hVal b 6 = hSel b := by
  unfold hVal
  rcases hSel_or b with ⟨h, _⟩ | h
  · rw [if_pos (by unfold Ht at h; omega)]
  · rw [h]; rfl
def wSel (b : List UInt8) : Nat := wFrom b 1
theorem wSel_hit (b : List UInt8) (k : Nat) (hk : Wd k) (e : be 4 (typ k) = b) : wSel b = k := by
  subst e
  rcases hk with rfl | rfl | rfl | rfl <;> decide
def wVal (b : List UInt8) (k : Nat) : Nat := if wSel b < k then wSel b else 0
theorem wVal_hit (b : List UInt8) (k : Nat) (hk : Wd k) (e : be 4 (typ k) = b) : wVal b (2 * k) = k := by
  unfold wVal
  rw [wSel_hit b k hk e, if_pos (by have := hk; unfold Wd at this; omega)]
theorem wVal_miss (b : List UInt8) (k : Nat) (hk : Wd k) (e : be 4 (typ k) ≠ b) : wVal b (2 * k) = wVal b k := by
  have hor : Wd (wSel b) ∨ wSel b = 0 := (wFrom_or b).imp (fun h => h.1) id
  have hne : wSel b ≠ k := fun he => by
    rcases wFrom_or b with ⟨_, h2⟩ | h2
    · exact e (by unfold wSel at he; rw [he] at h2; exact h2)
    · unfold wSel at he; have := hk; unfold Wd at this; omega
  have hk' := hk
  unfold Wd at hk' hor
  unfold wVal
  by_cases h1 : wSel b < k
  · rw [if_pos (by omega), if_pos h1]
  · rw [if_neg (by omega), if_neg h1]
theorem wVal_end (b : List UInt8) : wVal b 16 = wSel b := by
  unfold wVal
  rcases wFrom_or b with ⟨h, _⟩ | h
  · rw [if_pos (by unfold wSel; unfold Wd at h; omega)]
  · rw [show wSel b = 0 from h]; rfl
/-- Sixteen bytes, the first i of which are laid. -/
def mixI (R : List UInt8) (i : Nat) : List UInt8 := (List.range 16).map fun t => if t < i then R.getD t 0 else 0
theorem mixI_length (R : List UInt8) (i : Nat) : (mixI R i).length = 16 := by simp [mixI]
theorem mixI_0 (R : List UInt8) : mixI R 0 = Z16 := by
  unfold mixI
  simp only [Nat.not_lt_zero, if_false]
  decide
theorem mixI_16 (R : List UInt8) (hR : R.length = 16) : mixI R 16 = R := by
  refine List.ext_getElem (by simp [mixI, hR]) (fun t h1 h2 => ?_)
  have ht : t < 16 := by simpa [mixI] using h1
  simp [mixI, ht, List.getElem?_eq_getElem (show t < R.length by omega)]
theorem mixI_set (R : List UInt8) (i : Nat) (hi : i < 16) (seed : List UInt8) (z y : Int) : (tcs (mixI R i) seed z y).set i (.int .u8 ((R.getD i 0).toNat : Int)) = tcs (mixI R (i + 1)) seed z y := by
  unfold tcs
  rw [List.set_append_left _ _ (by rw [bys_length, mixI_length]; exact hi)]
  congr 1
  refine List.ext_getElem (by simp [bys, mixI]) (fun t h1 h2 => ?_)
  rw [List.getElem_set]
  by_cases e : i = t
  · subst e; simp [bys, mixI]
  · rw [if_neg e]
    simp only [bys, mixI, List.getElem_map, List.getElem_range]
    by_cases h : t < i
    · rw [if_pos h, if_pos (by omega)]
    · rw [if_neg h, if_neg (by omega)]
theorem tcs_i (R seed : List UInt8) (i : Nat) (hi : i < 16) (z y : Int) : ∃ v, (tcs (mixI R i) seed z y)[i]? = some v := by
  have : i < (tcs (mixI R i) seed z y).length := by simp [tcs, bys_length, mixI_length]; omega
  exact ⟨_, List.getElem?_eq_getElem this⟩

set_option maxRecDepth 100000 in
set_option maxHeartbeats 4000000 in
theorem rfForm_len (v : Value) (p : List UInt8) (w : World) (hr : Rd w.heap.size w v p) (hl : p.length ≠ 56) : Calls Tryz.prog 34 #[v] w (TwoD (.agg (tcs Z16 Z32 0 0).toArray) (.bool false) w) := by
  obtain ⟨A, c, rfl, hc, hm⟩ := hr.shape
  obtain ⟨n, hn⟩ : ∃ n, p.length = n := ⟨_, rfl⟩
  rw [hn] at hl ⊢
  have zn : ((n : Int) == 56) = false := by simp; omega
  have zn2 : (n == 56) = false := by simp; omega
  obtain ⟨d, hu, hd⟩ := rowTree5
  have HU := Lib.hid hu
  have HD := Lib.hid hd
  clear hr hc hm hn hu hd
  go_enter Tryz.func34, Tryz.ntmps34
  go_wp2_with (refine wpList_alloc_blk rfl 38 rfl _ ziTreeV ?_)
  intro w1 a1 a2 a3
  have A1 := Lib.hid a1
  have A3 := Lib.hid a3
  clear a1 a2 a3
  go_wp2_with (first | (refine wpList_buildTo rfl 38 _ rfl (some 13) rfl (tcs Z16 Z32 0 0).toArray (by kernel_rfl) ?_) | (refine wpList_store_blk rfl 38 _ _ rfl w.heap.size (tcs Z16 Z32 0 0) (tcs Z16 Z32 0 0) 38 rfl rfl A1.out (sTreeV _ _ _ _ Z16l Z32l) rfl (tcs_one _ _ _ _) ?_))
  refine bodyPost_ret (v := .tuple #[.agg (tcs Z16 Z32 0 0).toArray, .bool false]) ?_ rfl ?_
  · exact ret_blk2U rfl _ _ w.heap.size 38 (tcs Z16 Z32 0 0) _ rfl rfl A1.out.setRow d HU.out HD.out (sTreeV _ _ _ _ Z16l Z32l)
  · exact ⟨rfl, below_setRow' A3.out (Nat.le_refl _) _⟩

set_option maxRecDepth 100000 in
set_option maxHeartbeats 4000000 in
theorem rfForm_any (v : Value) (p R : List UInt8) (W H : Nat) (b : Bool) (w : World) (hr : Rd w.heap.size w v p) (hl : p.length = 56) (hR : (p.drop 8).take 16 = R) (hW : wSel ((p.drop 4).take 4) = W) (hH : hSel (p.take 4) = H)
    (hmay : ∀ w', Calls Tryz.prog 67 #[.agg (tcs R Z32 (W : Int) (H : Int)).toArray] w' (One (.bool b) w')) : Calls Tryz.prog 34 #[v] w (TwoD (.agg (tcs R Z32 (W : Int) (H : Int)).toArray) (.bool b) w) := by
  obtain ⟨a, c, rfl, hc, hm⟩ := hr.some_ (by omega)
  unfold maxLen at hm
  have HR := Lib.hid hr
  have HB := Lib.hid (hr.blockE (by omega))
  have HCE : Hid (∀ j, j < 56 → w.cell? (a.add j) = some (.int .u8 (((p.getD j 0).toNat : Nat) : Int))) := fun j hj => hr.cellE j (by omega)
  have HRG : Hid (∀ i, i < 16 → (p.getD (8 + i) 0) = R.getD i 0) := fun i hi => by
    rw [← hR, List.getD_eq_getElem?_getD, List.getD_eq_getElem?_getD, List.getElem?_take, if_pos hi, List.getElem?_drop]
  have hRl : R.length = 16 := by rw [← hR, List.length_take, List.length_drop, hl]; omega
  have H4 : Hid (Rd w.heap.size w (.slice (some a) 4 c) (p.take 4)) := by
    have h := hr.take 4 (by omega)
    exact h
  have H8 : Hid (Rd w.heap.size w (.slice (some (a.add 4)) 4 (c - 4)) ((p.drop 4).take 4)) := by
    have h := hr.dropE 4 (by omega)
    rw [if_neg (by omega)] at h
    exact h.take 4 (by omega)
  obtain ⟨b1, hb1⟩ : ∃ x, p.take 4 = x := ⟨_, rfl⟩
  obtain ⟨b2, hb2⟩ : ∃ x, (p.drop 4).take 4 = x := ⟨_, rfl⟩
  rw [hb1] at H4 hH
  rw [hb2] at H8 hW
  have HW := Lib.hid hW
  have HH := Lib.hid hH
  have HMAY := Lib.hid hmay
  have HRL := Lib.hid hRl
  rw [hl] at hc HR ⊢
  obtain ⟨d, hu, hd⟩ := rowTree5
  have HU := Lib.hid hu
  have HD := Lib.hid hd
  clear hr hb1 hb2 hl hR hW hH hmay hRl hu hd
  go_enter Tryz.func34, Tryz.ntmps34
  go_wp2_with (refine wpList_alloc_blk rfl 38 rfl _ ziTreeV ?_)
  intro w1 a1 a2 a3
  obtain ⟨g2, hg2⟩ : ∃ g, w.heap.size = g := ⟨_, rfl⟩
  have A1 : Hid (Blk w1 g2 (tcs Z16 Z32 0 0) 38) := by rw [← hg2]; exact a1
  have A3 := Lib.hid a3
  have HG := Lib.hid hg2
  rw [hg2]
  clear a1 a2 a3 hg2
  go_wp2_with (first | (refine wpList_buildTo rfl 38 _ rfl (some 14) rfl (tcs Z16 Z32 0 0).toArray (by kernel_rfl) ?_) | (refine wpList_alloc_blk rfl 38 rfl _ ziTreeV ?_))
  intro w2 a1 a2 a3
  obtain ⟨g4, hg4⟩ : ∃ g, w1.heap.size = g := ⟨_, rfl⟩
  have h24 : g2 < g4 := by have := A1.out.lt; omega
  rw [hg4] at a1 a2 a3 ⊢
  have G4 := Lib.hid a1
  obtain ⟨w3, hw3⟩ : ∃ t, w2.setRow g4 (tcs Z16 Z32 0 0).toArray = t := ⟨_, rfl⟩
  have K0 : Hid (Blk w3 g4 (tcs Z16 Z32 0 ((hVal b1 1 : Nat) : Int)) 38 ∧ Blk w3 g2 (tcs Z16 Z32 0 0) 38 ∧ Below w.heap.size w w3) := by
    have e : hVal b1 1 = 0 := by unfold hVal; split <;> omega
    refine ⟨?_, ?_, ?_⟩
    · rw [← hw3, e]; exact a1.setRow
    · rw [← hw3]; exact (A1.out.below a3 h24).setRowOther (by omega)
    · rw [← hw3]; exact below_setRow' (A3.out.trans (a3.mono (by have := A3.out.size; omega))) (by have := A3.out.size; omega) _
  have HW3 := Lib.hid hw3
  have hw24 : w.heap.size ≤ g4 := by have := HG.out; omega
  clear a1 a2 a3 hg4 hw3 A1 A3
  go_wp2_with (first | (refine wpList_store_blk rfl 38 _ _ rfl g4 (tcs Z16 Z32 0 0) (tcs Z16 Z32 0 0) 38 rfl rfl G4.out (sTreeV _ _ _ _ Z16l Z32l) rfl (tcs_one _ _ _ _) ?_; rw [HW3.out]; clear HW3))
  clear G4
  go_loopw [5] (fun x wr => ∃ h : Nat, 1 ≤ h ∧ h ≤ 6 ∧ x = .int .i64 (h : Int) ∧ Hid (Blk wr g4 (tcs Z16 Z32 0 ((hVal b1 h : Nat) : Int)) 38 ∧ Blk wr g2 (tcs Z16 Z32 0 0) 38 ∧ Below w.heap.size w wr)) (fun x _ => 6 - (intOf x).toNat)
  case atStart => exact ⟨1, by omega, by omega, rfl, K0⟩
  case round =>
    clear K0
    obtain ⟨h, h1, h6, rfl, KK⟩ := hrel
    by_cases hle : h ≤ 5
    · have zle : decide ((h : Int) ≤ 5) = true := decide_eq_true (by omega)
      have HHT : Hid (Ht h) := by show h = 1 ∨ _; omega
      obtain ⟨D, hD⟩ : ∃ D, knd h = D := ⟨_, rfl⟩
      have hD4 : D < 4294967296 := by rw [← hD]; exact knd_lt HHT.out
      have HDE := Lib.hid hD
      clear hD
      go_wp2_with fail
      by_cases hby0 : be 4 D = b1
      · have HBY := Lib.hid hby0
        clear hby0
        refine wp_region_rely2 8 0 (fun x => ⟨#[.slice (some a) 56 c, undef, .pointer (some { block := g2, off := 0 }), .bool false, .pointer (some { block := g4, off := 0 }), .int IntKind.i64 ↑h, undef, undef, undef, undef, .slice (some a) 56 c, .int IntKind.i64 56, .bool false, undef, .agg (tcs Z16 Z32 0 0).toArray, .int IntKind.i64 ↑h, .bool true, u17, u18, x 0, x 1, x 2, x 3, x 4, x 5, x 6, x 7, u27, u28, undef, undef, undef, undef, undef, undef, undef, undef, undef, undef, undef, undef, undef, undef, undef, undef, undef, undef, undef, undef, undef, undef, undef, undef, undef, undef, undef, undef, undef, undef, undef, undef, undef], []⟩) (fun jj => ([eqV (.int IntKind.i64 ↑h), (eqV (.int .u32 (D : Int))), (OwnN 0 (be 4 D)), eqV (.string ⟨(be 4 D).toArray⟩), eqV (.slice (some a) 56 c), eqV (.slice (some a) 4 c), eqV (.string ⟨b1.toArray⟩), eqV (.bool true)] : List (Value → World → Prop)).getD jj (fun _ _ => True)) rfl ⟨fun kk => [_, _, _, _, _, _, _, _].getD kk undef, rfl⟩ (by kernel_rfl) (by kernel_rfl) ?steps ?fin
        case steps =>
          refine StepsAt.val 0 (.int IntKind.i64 ↑h) rfl (fun _ _ => rfl) rfl rfl (fun x w9 hb hd => ?_) ?_
          · first | (go_simp; done) | (go_simp; rfl)
          refine StepsAt.cons 1 (fun _ _ _ h hb => h) (fun _ _ => rfl) rfl rfl (fun x w9 hb hd K hK => ?_) ?_
          · have h0 : Hid (x 0 = .int IntKind.i64 ↑h) := hd 0 (by kernel_rfl)
            go_simp
            refine calls_args (args2 := #[.int .i64 (h : Int)]) (by rw [h0.out]) ?_
            refine (rfTyped_any h _ HHT.out).mono ?_
            rintro e w99 ⟨rfl, rfl⟩
            rw [HDE.out]
            exact hK.out _ _ (Below.refl _ _) rfl
          refine StepsAt.cons 2 (fun _ _ _ h hb => OwnN.keep h hb) (fun _ _ => rfl) rfl rfl (fun x w9 hb hd K hK => ?_) ?_
          · have h1 : Hid (x 1 = .int .u32 (D : Int)) := hd 1 (by kernel_rfl)
            go_simp
            refine calls_args (args2 := #[.int .u32 (D : Int)]) (by rw [h1.out]) ?_
            refine (four_any D _ hD4).mono ?_
            rintro e w99 ⟨v2, rfl, hown, hb2⟩
            exact hK.out _ _ hb2 (hown.base (Nat.zero_le _))
          refine StepsAt.val 3 (.string ⟨(be 4 D).toArray⟩) rfl (fun _ _ => rfl) rfl rfl (fun x w9 hb hd => ?_) ?_
          · have h2 : OwnN 0 (be 4 D) (x 2) w9 := hd 2 (by kernel_rfl)
            have h2 := h2
            have r1 : Rd w9.heap.size w9 (x 2) (be 4 D) := Own.rd h2
            obtain ⟨A1, c1, e1, _, _⟩ := r1.shape
            rw [e1] at r1
            have t1 := run_string_rd 22 9 5 Tryz.underlying22 Tryz.underlying5 Tryz.underlying9 r1
            rw [e1]
            clear e1 h2 r1
            first | (go_simp; done) | (go_simp; rfl)
          refine StepsAt.val 4 (.slice (some a) 56 c) rfl (fun _ _ => rfl) rfl rfl (fun x w9 hb hd => ?_) ?_
          · first | (go_simp; done) | (go_simp; rfl)
          refine StepsAt.val 5 (.slice (some a) 4 c) rfl (fun _ _ => rfl) rfl rfl (fun x w9 hb hd => ?_) ?_
          · have h4 : x 4 = .slice (some a) 56 c := hd 4 (by kernel_rfl)
            have zc : ¬ ((c : Int) < 4) := by omega
            rw [h4]
            first | (go_simp; done) | (go_simp; rfl)
          refine StepsAt.val 6 (.string ⟨b1.toArray⟩) rfl (fun _ _ => rfl) rfl rfl (fun x w9 hb hd => ?_) ?_
          · have h5 : x 5 = .slice (some a) 4 c := hd 5 (by kernel_rfl)
            have r1 := (H4.out.below KK.out.2.2).below (hb.mono KK.out.2.2.size)
            have t1 := run_string_rd 22 9 5 Tryz.underlying22 Tryz.underlying5 Tryz.underlying9 r1
            rw [h5]
            clear r1
            first | (go_simp; done) | (go_simp; rfl)
          refine StepsAt.val 7 (.bool true) rfl (fun _ _ => rfl) rfl rfl (fun x w9 hb hd => ?_) ?_
          · have h3 : x 3 = .string ⟨(be 4 D).toArray⟩ := hd 3 (by kernel_rfl)
            have h6 : x 6 = .string ⟨b1.toArray⟩ := hd 6 (by kernel_rfl)
            rw [h3, h6]
            rw [HBY.out]
            first | (go_simp; done) | (go_simp; rfl)
          exact StepsAt.done
        case fin =>
          intro x w9 hb hd
          have hx0 : x 0 = .int IntKind.i64 ↑h := hd 0 (by omega)
          have hx1 : x 1 = .int .u32 (D : Int) := hd 1 (by omega)
          have hx3 : x 3 = .string ⟨(be 4 D).toArray⟩ := hd 3 (by omega)
          have hx4 : x 4 = .slice (some a) 56 c := hd 4 (by omega)
          have hx5 : x 5 = .slice (some a) 4 c := hd 5 (by omega)
          have hx6 : x 6 = .string ⟨b1.toArray⟩ := hd 6 (by omega)
          have hx7 : x 7 = .bool true := hd 7 (by omega)
          refine AnyTill.any (S := fun _ => True) (m := 8) _ _ _ _ ?_
          refine AnyTill.done (by kernel_rfl) ?_
          refine NoPanic.normal ?_
          try dsimp only
          rw [hx0, hx1, hx3, hx4, hx5, hx6, hx7]
          have N4 : Hid (Blk w9 g4 (tcs Z16 Z32 0 ((hVal b1 h : Nat) : Int)) 38) := KK.out.1.below hb KK.out.1.lt
          have N2 : Hid (Blk w9 g2 (tcs Z16 Z32 0 0) 38) := KK.out.2.1.below hb KK.out.2.1.lt
          have N3 : Hid (Below w.heap.size w w9) := KK.out.2.2.trans (hb.mono KK.out.2.2.size)
          generalize x 2 = y2
          clear hd hb hx0 hx1 hx3 hx4 hx5 hx6 hx7 KK x
          have HV : Hid (hVal b1 (h + 1) = h) := hVal_hit b1 h HHT.out (by rw [HDE.out]; exact HBY.out)
          have cy := N4.out.cell 49
          rw [tcs_y _ _ _ _ Z16l Z32l] at cy
          have fy := N4.out.frozen 49
          go_wp2
          go_roundw
          case rel => exact ⟨h + 1, by omega, by omega, by go_num, ⟨by rw [HV.out]; have q := N4.out.set 49 (.int .i64 (h : Int)); rw [tcs_sety _ _ _ _ _ Z16l Z32l] at q; exact q, N2.out.setOther _ _ (by show g2 ≠ g4; omega), N3.out.setCell (by show w.heap.size ≤ g4; exact hw24) _⟩⟩
          case measure => simp [intOf]; omega
      · have HBY := Lib.hid hby0
        clear hby0
        refine wp_region_rely2 8 0 (fun x => ⟨#[.slice (some a) 56 c, undef, .pointer (some { block := g2, off := 0 }), .bool false, .pointer (some { block := g4, off := 0 }), .int IntKind.i64 ↑h, undef, undef, undef, undef, .slice (some a) 56 c, .int IntKind.i64 56, .bool false, undef, .agg (tcs Z16 Z32 0 0).toArray, .int IntKind.i64 ↑h, .bool true, u17, u18, x 0, x 1, x 2, x 3, x 4, x 5, x 6, x 7, u27, u28, undef, undef, undef, undef, undef, undef, undef, undef, undef, undef, undef, undef, undef, undef, undef, undef, undef, undef, undef, undef, undef, undef, undef, undef, undef, undef, undef, undef, undef, undef, undef, undef, undef], []⟩) (fun jj => ([eqV (.int IntKind.i64 ↑h), (eqV (.int .u32 (D : Int))), (OwnN 0 (be 4 D)), eqV (.string ⟨(be 4 D).toArray⟩), eqV (.slice (some a) 56 c), eqV (.slice (some a) 4 c), eqV (.string ⟨b1.toArray⟩), eqV (.bool false)] : List (Value → World → Prop)).getD jj (fun _ _ => True)) rfl ⟨fun kk => [_, _, _, _, _, _, _, _].getD kk undef, rfl⟩ (by kernel_rfl) (by kernel_rfl) ?steps ?fin
        case steps =>
          refine StepsAt.val 0 (.int IntKind.i64 ↑h) rfl (fun _ _ => rfl) rfl rfl (fun x w9 hb hd => ?_) ?_
          · first | (go_simp; done) | (go_simp; rfl)
          refine StepsAt.cons 1 (fun _ _ _ h hb => h) (fun _ _ => rfl) rfl rfl (fun x w9 hb hd K hK => ?_) ?_
          · have h0 : Hid (x 0 = .int IntKind.i64 ↑h) := hd 0 (by kernel_rfl)
            go_simp
            refine calls_args (args2 := #[.int .i64 (h : Int)]) (by rw [h0.out]) ?_
            refine (rfTyped_any h _ HHT.out).mono ?_
            rintro e w99 ⟨rfl, rfl⟩
            rw [HDE.out]
            exact hK.out _ _ (Below.refl _ _) rfl
          refine StepsAt.cons 2 (fun _ _ _ h hb => OwnN.keep h hb) (fun _ _ => rfl) rfl rfl (fun x w9 hb hd K hK => ?_) ?_
          · have h1 : Hid (x 1 = .int .u32 (D : Int)) := hd 1 (by kernel_rfl)
            go_simp
            refine calls_args (args2 := #[.int .u32 (D : Int)]) (by rw [h1.out]) ?_
            refine (four_any D _ hD4).mono ?_
            rintro e w99 ⟨v2, rfl, hown, hb2⟩
            exact hK.out _ _ hb2 (hown.base (Nat.zero_le _))
          refine StepsAt.val 3 (.string ⟨(be 4 D).toArray⟩) rfl (fun _ _ => rfl) rfl rfl (fun x w9 hb hd => ?_) ?_
          · have h2 : OwnN 0 (be 4 D) (x 2) w9 := hd 2 (by kernel_rfl)
            have h2 := h2
            have r1 : Rd w9.heap.size w9 (x 2) (be 4 D) := Own.rd h2
            obtain ⟨A1, c1, e1, _, _⟩ := r1.shape
            rw [e1] at r1
            have t1 := run_string_rd 22 9 5 Tryz.underlying22 Tryz.underlying5 Tryz.underlying9 r1
            rw [e1]
            clear e1 h2 r1
            first | (go_simp; done) | (go_simp; rfl)
          refine StepsAt.val 4 (.slice (some a) 56 c) rfl (fun _ _ => rfl) rfl rfl (fun x w9 hb hd => ?_) ?_
          · first | (go_simp; done) | (go_simp; rfl)
          refine StepsAt.val 5 (.slice (some a) 4 c) rfl (fun _ _ => rfl) rfl rfl (fun x w9 hb hd => ?_) ?_
          · have h4 : x 4 = .slice (some a) 56 c := hd 4 (by kernel_rfl)
            have zc : ¬ ((c : Int) < 4) := by omega
            rw [h4]
            first | (go_simp; done) | (go_simp; rfl)
          refine StepsAt.val 6 (.string ⟨b1.toArray⟩) rfl (fun _ _ => rfl) rfl rfl (fun x w9 hb hd => ?_) ?_
          · have h5 : x 5 = .slice (some a) 4 c := hd 5 (by kernel_rfl)
            have r1 := (H4.out.below KK.out.2.2).below (hb.mono KK.out.2.2.size)
            have t1 := run_string_rd 22 9 5 Tryz.underlying22 Tryz.underlying5 Tryz.underlying9 r1
            rw [h5]
            clear r1
            first | (go_simp; done) | (go_simp; rfl)
          refine StepsAt.val 7 (.bool false) rfl (fun _ _ => rfl) rfl rfl (fun x w9 hb hd => ?_) ?_
          · have h3 : x 3 = .string ⟨(be 4 D).toArray⟩ := hd 3 (by kernel_rfl)
            have h6 : x 6 = .string ⟨b1.toArray⟩ := hd 6 (by kernel_rfl)
            rw [h3, h6]
            go_simp
            exact HBY.out
          exact StepsAt.done
        case fin =>
          intro x w9 hb hd
          have hx0 : x 0 = .int IntKind.i64 ↑h := hd 0 (by omega)
          have hx1 : x 1 = .int .u32 (D : Int) := hd 1 (by omega)
          have hx3 : x 3 = .string ⟨(be 4 D).toArray⟩ := hd 3 (by omega)
          have hx4 : x 4 = .slice (some a) 56 c := hd 4 (by omega)
          have hx5 : x 5 = .slice (some a) 4 c := hd 5 (by omega)
          have hx6 : x 6 = .string ⟨b1.toArray⟩ := hd 6 (by omega)
          have hx7 : x 7 = .bool false := hd 7 (by omega)
          refine AnyTill.any (S := fun _ => True) (m := 8) _ _ _ _ ?_
          refine AnyTill.done (by kernel_rfl) ?_
          refine NoPanic.normal ?_
          try dsimp only
          rw [hx0, hx1, hx3, hx4, hx5, hx6, hx7]
          have N4 : Hid (Blk w9 g4 (tcs Z16 Z32 0 ((hVal b1 h : Nat) : Int)) 38) := KK.out.1.below hb KK.out.1.lt
          have N2 : Hid (Blk w9 g2 (tcs Z16 Z32 0 0) 38) := KK.out.2.1.below hb KK.out.2.1.lt
          have N3 : Hid (Below w.heap.size w w9) := KK.out.2.2.trans (hb.mono KK.out.2.2.size)
          generalize x 2 = y2
          clear hd hb hx0 hx1 hx3 hx4 hx5 hx6 hx7 KK x
          have HV : Hid (hVal b1 (h + 1) = hVal b1 h) := hVal_miss b1 h HHT.out (by rw [HDE.out]; exact HBY.out)
          go_wp2
          go_roundw
          case rel => exact ⟨h + 1, by omega, by omega, by go_num, ⟨by rw [HV.out]; exact N4.out, N2.out, N3.out⟩⟩
          case measure => simp [intOf]; omega
    · obtain rfl : h = 6 := by omega
      rw [show ((6 : Nat) : Int) = 6 from rfl]
      have K1 : Hid (Blk wr g4 (tcs Z16 Z32 ((wVal b2 1 : Nat) : Int) (H : Int)) 38 ∧ Blk wr g2 (tcs Z16 Z32 0 0) 38 ∧ Below w.heap.size w wr) := by
        show _ ∧ _
        obtain ⟨q1, q2, q3⟩ := KK.out
        rw [hVal_end, HH.out] at q1
        have e : wVal b2 1 = 0 := by unfold wVal; split <;> omega
        rw [e]
        exact ⟨q1, q2, q3⟩
      clear KK
      go_wp2
      go_loopw [6] (fun x wr => ∃ k : Nat, (Wd k ∨ k = 16) ∧ x = .int .i64 (k : Int) ∧ Hid (Blk wr g4 (tcs Z16 Z32 ((wVal b2 k : Nat) : Int) (H : Int)) 38 ∧ Blk wr g2 (tcs Z16 Z32 0 0) 38 ∧ Below w.heap.size w wr)) (fun x _ => 16 - (intOf x).toNat)
      case atStart => exact ⟨1, .inl (.inl rfl), rfl, K1⟩
      case round =>
        clear K1
        obtain ⟨k, hk, rfl, KK⟩ := hrel
        rcases hk with hk | rfl
        · obtain ⟨k1, k8, _, _⟩ := hk.le
          have zk : decide ((k : Int) ≤ 8) = true := decide_eq_true (by omega)
          have HK := Lib.hid hk
          obtain ⟨Y, hY⟩ : ∃ Y, typ k = Y := ⟨_, rfl⟩
          have hY4 : Y < 4294967296 := by rw [← hY]; exact typ_lt hk
          have HYE := Lib.hid hY
          clear hk hY
          go_wp2_with fail
          refine (refType_yes k _ HK.out).mono ?_
          rintro e w1 ⟨rfl, rfl⟩
          rw [HYE.out]
          go_wp2_with fail
          by_cases hby0 : be 4 Y = b2
          · have HBY := Lib.hid hby0
            clear hby0
            refine wp_region_rely2 7 0 (fun x => ⟨#[.slice (some a) 56 c, undef, .pointer (some { block := g2, off := 0 }), .bool false, .pointer (some { block := g4, off := 0 }), .int IntKind.i64 6, .int IntKind.i64 ↑k, .int IntKind.u32 ↑Y, .int IntKind.i64 0, undef, .slice (some a) 56 c, .int IntKind.i64 56, .bool false, undef, .agg (tcs Z16 Z32 0 0).toArray, .int IntKind.i64 6, .bool false, u17, u18, u19, u20, u21, u22, u23, u24, u25, u26, u27, u28, .int IntKind.i64 ↑k, .bool true, u31, u32, .tuple #[Value.int IntKind.u32 ↑Y, Value.int IntKind.i64 0], .int IntKind.i64 ↑k, .tuple #[Value.int IntKind.u32 ↑Y, Value.int IntKind.i64 0], .int IntKind.u32 ↑Y, .int IntKind.i64 0, x 0, x 1, x 2, x 3, x 4, x 5, x 6, u45, u46, undef, undef, undef, undef, undef, undef, undef, undef, undef, undef, undef, undef, undef, undef, undef], []⟩) (fun jj => ([eqV (.int IntKind.u32 ↑Y), (OwnN 0 (be 4 Y)), eqV (.string ⟨(be 4 Y).toArray⟩), eqV (.slice (some a) 56 c), eqV (.slice (some (a.add 4)) 4 (c - 4)), eqV (.string ⟨b2.toArray⟩), eqV (.bool true)] : List (Value → World → Prop)).getD jj (fun _ _ => True)) rfl ⟨fun kk => [_, _, _, _, _, _, _].getD kk undef, rfl⟩ (by kernel_rfl) (by kernel_rfl) ?steps ?fin
            case steps =>
              refine StepsAt.val 0 (.int IntKind.u32 ↑Y) rfl (fun _ _ => rfl) rfl rfl (fun x w9 hb hd => ?_) ?_
              · first | (go_simp; done) | (go_simp; rfl)
              refine StepsAt.cons 1 (fun _ _ _ h hb => OwnN.keep h hb) (fun _ _ => rfl) rfl rfl (fun x w9 hb hd K hK => ?_) ?_
              · have h0 : Hid (x 0 = .int IntKind.u32 ↑Y) := hd 0 (by kernel_rfl)
                go_simp
                refine calls_args (args2 := #[.int .u32 (Y : Int)]) (by rw [h0.out]) ?_
                refine (four_any Y _ hY4).mono ?_
                rintro e w99 ⟨v2, rfl, hown, hb2⟩
                exact hK.out _ _ hb2 (hown.base (Nat.zero_le _))
              refine StepsAt.val 2 (.string ⟨(be 4 Y).toArray⟩) rfl (fun _ _ => rfl) rfl rfl (fun x w9 hb hd => ?_) ?_
              · have h1 : OwnN 0 (be 4 Y) (x 1) w9 := hd 1 (by kernel_rfl)
                have h1 := h1
                have r1 : Rd w9.heap.size w9 (x 1) (be 4 Y) := Own.rd h1
                obtain ⟨A1, c1, e1, _, _⟩ := r1.shape
                rw [e1] at r1
                have t1 := run_string_rd 22 9 5 Tryz.underlying22 Tryz.underlying5 Tryz.underlying9 r1
                rw [e1]
                clear e1 h1 r1
                first | (go_simp; done) | (go_simp; rfl)
              refine StepsAt.val 3 (.slice (some a) 56 c) rfl (fun _ _ => rfl) rfl rfl (fun x w9 hb hd => ?_) ?_
              · first | (go_simp; done) | (go_simp; rfl)
              refine StepsAt.val 4 (.slice (some (a.add 4)) 4 (c - 4)) rfl (fun _ _ => rfl) rfl rfl (fun x w9 hb hd => ?_) ?_
              · have h3 : x 3 = .slice (some a) 56 c := hd 3 (by kernel_rfl)
                have zc : ¬ ((c : Int) < 8) := by omega
                have zc4 : ¬ (c = 4) := by omega
                rw [h3]
                first | (go_simp; done) | (go_simp; rfl)
              refine StepsAt.val 5 (.string ⟨b2.toArray⟩) rfl (fun _ _ => rfl) rfl rfl (fun x w9 hb hd => ?_) ?_
              · have h4 : x 4 = .slice (some (a.add 4)) 4 (c - 4) := hd 4 (by kernel_rfl)
                have r1 := (H8.out.below KK.out.2.2).below (hb.mono KK.out.2.2.size)
                have t1 := run_string_rd 22 9 5 Tryz.underlying22 Tryz.underlying5 Tryz.underlying9 r1
                simp [Addr.add] at t1
                rw [h4]
                clear r1
                first | (go_simp; done) | (go_simp; rfl)
              refine StepsAt.val 6 (.bool true) rfl (fun _ _ => rfl) rfl rfl (fun x w9 hb hd => ?_) ?_
              · have h2 : x 2 = .string ⟨(be 4 Y).toArray⟩ := hd 2 (by kernel_rfl)
                have h5 : x 5 = .string ⟨b2.toArray⟩ := hd 5 (by kernel_rfl)
                rw [h2, h5]
                rw [HBY.out]
                first | (go_simp; done) | (go_simp; rfl)
              exact StepsAt.done
            case fin =>
              intro x w9 hb hd
              have hx0 : x 0 = .int IntKind.u32 ↑Y := hd 0 (by omega)
              have hx2 : x 2 = .string ⟨(be 4 Y).toArray⟩ := hd 2 (by omega)
              have hx3 : x 3 = .slice (some a) 56 c := hd 3 (by omega)
              have hx4 : x 4 = .slice (some (a.add 4)) 4 (c - 4) := hd 4 (by omega)
              have hx5 : x 5 = .string ⟨b2.toArray⟩ := hd 5 (by omega)
              have hx6 : x 6 = .bool true := hd 6 (by omega)
              refine AnyTill.any (S := fun _ => True) (m := 7) _ _ _ _ ?_
              refine AnyTill.done (by kernel_rfl) ?_
              refine NoPanic.normal ?_
              try dsimp only
              rw [hx0, hx2, hx3, hx4, hx5, hx6]
              have N4 : Hid (Blk w9 g4 (tcs Z16 Z32 ((wVal b2 k : Nat) : Int) (H : Int)) 38) := KK.out.1.below hb KK.out.1.lt
              have N2 : Hid (Blk w9 g2 (tcs Z16 Z32 0 0) 38) := KK.out.2.1.below hb KK.out.2.1.lt
              have N3 : Hid (Below w.heap.size w w9) := KK.out.2.2.trans (hb.mono KK.out.2.2.size)
              generalize x 1 = y1
              clear hd hb hx0 hx2 hx3 hx4 hx5 hx6 KK x
              have hk2 : Wd (2 * k) ∨ 2 * k = 16 := by rcases HK.out with rfl | rfl | rfl | rfl <;> simp [Wd]
              have HV : Hid (wVal b2 (2 * k) = k) := wVal_hit b2 k HK.out (by rw [HYE.out]; exact HBY.out)
              have cz := N4.out.cell 48
              rw [tcs_z _ _ _ _ Z16l Z32l] at cz
              have fz := N4.out.frozen 48
              go_wp2
              go_roundw
              case rel => exact ⟨2 * k, hk2, by go_num, ⟨by rw [HV.out]; have q := N4.out.set 48 (.int .i64 (k : Int)); rw [tcs_setz _ _ _ _ _ Z16l Z32l] at q; exact q, N2.out.setOther _ _ (by show g2 ≠ g4; omega), N3.out.setCell (by show w.heap.size ≤ g4; exact hw24) _⟩⟩
              case measure => simp [intOf]; omega
          · have HBY := Lib.hid hby0
            clear hby0
            refine wp_region_rely2 7 0 (fun x => ⟨#[.slice (some a) 56 c, undef, .pointer (some { block := g2, off := 0 }), .bool false, .pointer (some { block := g4, off := 0 }), .int IntKind.i64 6, .int IntKind.i64 ↑k, .int IntKind.u32 ↑Y, .int IntKind.i64 0, undef, .slice (some a) 56 c, .int IntKind.i64 56, .bool false, undef, .agg (tcs Z16 Z32 0 0).toArray, .int IntKind.i64 6, .bool false, u17, u18, u19, u20, u21, u22, u23, u24, u25, u26, u27, u28, .int IntKind.i64 ↑k, .bool true, u31, u32, .tuple #[Value.int IntKind.u32 ↑Y, Value.int IntKind.i64 0], .int IntKind.i64 ↑k, .tuple #[Value.int IntKind.u32 ↑Y, Value.int IntKind.i64 0], .int IntKind.u32 ↑Y, .int IntKind.i64 0, x 0, x 1, x 2, x 3, x 4, x 5, x 6, u45, u46, undef, undef, undef, undef, undef, undef, undef, undef, undef, undef, undef, undef, undef, undef, undef], []⟩) (fun jj => ([eqV (.int IntKind.u32 ↑Y), (OwnN 0 (be 4 Y)), eqV (.string ⟨(be 4 Y).toArray⟩), eqV (.slice (some a) 56 c), eqV (.slice (some (a.add 4)) 4 (c - 4)), eqV (.string ⟨b2.toArray⟩), eqV (.bool false)] : List (Value → World → Prop)).getD jj (fun _ _ => True)) rfl ⟨fun kk => [_, _, _, _, _, _, _].getD kk undef, rfl⟩ (by kernel_rfl) (by kernel_rfl) ?steps ?fin
            case steps =>
              refine StepsAt.val 0 (.int IntKind.u32 ↑Y) rfl (fun _ _ => rfl) rfl rfl (fun x w9 hb hd => ?_) ?_
              · first | (go_simp; done) | (go_simp; rfl)
              refine StepsAt.cons 1 (fun _ _ _ h hb => OwnN.keep h hb) (fun _ _ => rfl) rfl rfl (fun x w9 hb hd K hK => ?_) ?_
              · have h0 : Hid (x 0 = .int IntKind.u32 ↑Y) := hd 0 (by kernel_rfl)
                go_simp
                refine calls_args (args2 := #[.int .u32 (Y : Int)]) (by rw [h0.out]) ?_
                refine (four_any Y _ hY4).mono ?_
                rintro e w99 ⟨v2, rfl, hown, hb2⟩
                exact hK.out _ _ hb2 (hown.base (Nat.zero_le _))
              refine StepsAt.val 2 (.string ⟨(be 4 Y).toArray⟩) rfl (fun _ _ => rfl) rfl rfl (fun x w9 hb hd => ?_) ?_
              · have h1 : OwnN 0 (be 4 Y) (x 1) w9 := hd 1 (by kernel_rfl)
                have h1 := h1
                have r1 : Rd w9.heap.size w9 (x 1) (be 4 Y) := Own.rd h1
                obtain ⟨A1, c1, e1, _, _⟩ := r1.shape
                rw [e1] at r1
                have t1 := run_string_rd 22 9 5 Tryz.underlying22 Tryz.underlying5 Tryz.underlying9 r1
                rw [e1]
                clear e1 h1 r1
                first | (go_simp; done) | (go_simp; rfl)
              refine StepsAt.val 3 (.slice (some a) 56 c) rfl (fun _ _ => rfl) rfl rfl (fun x w9 hb hd => ?_) ?_
              · first | (go_simp; done) | (go_simp; rfl)
              refine StepsAt.val 4 (.slice (some (a.add 4)) 4 (c - 4)) rfl (fun _ _ => rfl) rfl rfl (fun x w9 hb hd => ?_) ?_
              · have h3 : x 3 = .slice (some a) 56 c := hd 3 (by kernel_rfl)
                have zc : ¬ ((c : Int) < 8) := by omega
                have zc4 : ¬ (c = 4) := by omega
                rw [h3]
                first | (go_simp; done) | (go_simp; rfl)
              refine StepsAt.val 5 (.string ⟨b2.toArray⟩) rfl (fun _ _ => rfl) rfl rfl (fun x w9 hb hd => ?_) ?_
              · have h4 : x 4 = .slice (some (a.add 4)) 4 (c - 4) := hd 4 (by kernel_rfl)
                have r1 := (H8.out.below KK.out.2.2).below (hb.mono KK.out.2.2.size)
                have t1 := run_string_rd 22 9 5 Tryz.underlying22 Tryz.underlying5 Tryz.underlying9 r1
                simp [Addr.add] at t1
                rw [h4]
                clear r1
                first | (go_simp; done) | (go_simp; rfl)
              refine StepsAt.val 6 (.bool false) rfl (fun _ _ => rfl) rfl rfl (fun x w9 hb hd => ?_) ?_
              · have h2 : x 2 = .string ⟨(be 4 Y).toArray⟩ := hd 2 (by kernel_rfl)
                have h5 : x 5 = .string ⟨b2.toArray⟩ := hd 5 (by kernel_rfl)
                rw [h2, h5]
                go_simp
                exact HBY.out
              exact StepsAt.done
            case fin =>
              intro x w9 hb hd
              have hx0 : x 0 = .int IntKind.u32 ↑Y := hd 0 (by omega)
              have hx2 : x 2 = .string ⟨(be 4 Y).toArray⟩ := hd 2 (by omega)
              have hx3 : x 3 = .slice (some a) 56 c := hd 3 (by omega)
              have hx4 : x 4 = .slice (some (a.add 4)) 4 (c - 4) := hd 4 (by omega)
              have hx5 : x 5 = .string ⟨b2.toArray⟩ := hd 5 (by omega)
              have hx6 : x 6 = .bool false := hd 6 (by omega)
              refine AnyTill.any (S := fun _ => True) (m := 7) _ _ _ _ ?_
              refine AnyTill.done (by kernel_rfl) ?_
              refine NoPanic.normal ?_
              try dsimp only
              rw [hx0, hx2, hx3, hx4, hx5, hx6]
              have N4 : Hid (Blk w9 g4 (tcs Z16 Z32 ((wVal b2 k : Nat) : Int) (H : Int)) 38) := KK.out.1.below hb KK.out.1.lt
              have N2 : Hid (Blk w9 g2 (tcs Z16 Z32 0 0) 38) := KK.out.2.1.below hb KK.out.2.1.lt
              have N3 : Hid (Below w.heap.size w w9) := KK.out.2.2.trans (hb.mono KK.out.2.2.size)
              generalize x 1 = y1
              clear hd hb hx0 hx2 hx3 hx4 hx5 hx6 KK x
              have hk2 : Wd (2 * k) ∨ 2 * k = 16 := by rcases HK.out with rfl | rfl | rfl | rfl <;> simp [Wd]
              have HV : Hid (wVal b2 (2 * k) = wVal b2 k) := wVal_miss b2 k HK.out (by rw [HYE.out]; exact HBY.out)
              go_wp2
              go_roundw
              case rel => exact ⟨2 * k, hk2, by go_num, ⟨by rw [HV.out]; exact N4.out, N2.out, N3.out⟩⟩
              case measure => simp [intOf]; omega
        · have K2 : Hid (Blk wr g4 (tcs (mixI R 0) Z32 (W : Int) (H : Int)) 38 ∧ Blk wr g2 (tcs Z16 Z32 0 0) 38 ∧ Below w.heap.size w wr) := by
            show _ ∧ _
            obtain ⟨q1, q2, q3⟩ := KK.out
            rw [wVal_end, HW.out] at q1
            rw [mixI_0]
            exact ⟨q1, q2, q3⟩
          clear KK
          rw [show ((16 : Nat) : Int) = 16 from rfl]
          go_wp2
          go_loopw [9] (fun x wr => ∃ i : Nat, i ≤ 16 ∧ x = .int .i64 (i : Int) ∧ Hid (Blk wr g4 (tcs (mixI R i) Z32 (W : Int) (H : Int)) 38 ∧ Blk wr g2 (tcs Z16 Z32 0 0) 38 ∧ Below w.heap.size w wr)) (fun x _ => 16 - (intOf x).toNat)
          case atStart => exact ⟨0, by omega, rfl, K2⟩
          case round =>
            clear K2
            obtain ⟨i, hi, rfl, KK⟩ := hrel
            by_cases hi2 : i < 16
            · have zi : (i : Int) < 16 := by omega
              obtain ⟨j, hj⟩ : ∃ j, 8 + i = j := ⟨_, rfl⟩
              have z1 : 8 + (i : Int) = (j : Int) := by omega
              have zj : (j : Int) < 56 := by omega
              have cS : wr.cell? (a.add j) = some (.int .u8 (((R.getD i 0).toNat : Nat) : Int)) := by
                rw [KK.out.2.2.cell (by rw [addr_block]; exact HB.out), HCE.out j (by omega), ← hj, HRG.out i hi2]
              obtain ⟨vx, hvx⟩ := tcs_i R Z32 i hi2 (W : Int) (H : Int)
              have cx := KK.out.1.cell i
              rw [hvx] at cx
              have fx := KK.out.1.frozen i
              obtain ⟨B, hB⟩ : ∃ B, (R.getD i 0).toNat = B := ⟨_, rfl⟩
              rw [hB] at cS
              have HBE := Lib.hid hB
              have HJ := Lib.hid hj
              clear hvx hB hj
              go_wp2
              go_roundw
              case rel => exact ⟨i + 1, by omega, by go_num, ⟨by have q := KK.out.1.set i (.int .u8 (B : Int)); rw [← HBE.out, mixI_set R i hi2] at q; rw [HBE.out] at q; exact q, KK.out.2.1.setOther _ _ (by show g2 ≠ g4; omega), KK.out.2.2.setCell (by show w.heap.size ≤ g4; exact hw24) _⟩⟩
              case measure => simp [intOf]; omega
            · obtain rfl : i = 16 := by omega
              rw [show ((16 : Nat) : Int) = 16 from rfl]
              have L4 : Hid (Blk wr g4 (tcs R Z32 (W : Int) (H : Int)) 38) := by have q := KK.out.1; rw [mixI_16 R HRL.out] at q; exact q
              have L2 : Hid (Blk wr g2 (tcs Z16 Z32 0 0) 38) := KK.out.2.1
              have L3 : Hid (Below w.heap.size w wr) := KK.out.2.2
              have HS := Lib.hid (sTreeV R Z32 (W : Int) (H : Int) HRL.out Z32l)
              have HLT : Hid ((tcs Z16 Z32 0 0).length = (tcs R Z32 (W : Int) (H : Int)).length) := by show _ = _; rw [tcs_length _ _ _ _ HRL.out Z32l]; rfl
              clear KK
              go_wp2_with fail
              refine wp_region_rely3 3 2 (fun x => ⟨#[.slice (some a) 56 c, undef, .pointer (some { block := g2, off := 0 }), .bool false, .pointer (some { block := g4, off := 0 }), .int IntKind.i64 6, .int IntKind.i64 16, u7, u8, .int IntKind.i64 16, .slice (some a) 56 c, .int IntKind.i64 56, .bool false, undef, .agg (tcs Z16 Z32 0 0).toArray, .int IntKind.i64 6, .bool false, u17, u18, u19, u20, u21, u22, u23, u24, u25, u26, u27, u28, .int IntKind.i64 16, .bool false, u31, u32, u33, u34, u35, u36, u37, u38, u39, u40, u41, u42, u43, u44, u45, u46, .int IntKind.i64 16, .bool false, u49, u50, u51, u52, u53, u54, u55, u56, u57, u58, x 0, x 1, x 2], []⟩) (fun jj => ([eqV (.agg (tcs R Z32 (W : Int) (H : Int)).toArray), eqV (.agg (tcs R Z32 (W : Int) (H : Int)).toArray), (eqV (.bool b))] : List (Value → World → Prop)).getD jj (fun _ _ => True)) rfl ⟨fun kk => [_, _, _].getD kk undef, rfl⟩ (by kernel_rfl) (by kernel_rfl) ?steps ?fin
              case steps =>
                refine StepsAt.val 0 (.agg (tcs R Z32 (W : Int) (H : Int)).toArray) rfl (fun _ _ => rfl) rfl rfl (fun x w9 hb hd => ?_) ?_
                · exact run_load_blkU 38 (.tmp 4) rfl g4 rfl (tcs R Z32 (W : Int) (H : Int)) 38 (L4.out.below hb L4.out.lt) d HU.out HD.out HS.out
                refine StepsAt.val 1 (.agg (tcs R Z32 (W : Int) (H : Int)).toArray) rfl (fun _ _ => rfl) rfl rfl (fun x w9 hb hd => ?_) ?_
                · exact run_load_blkU 38 (.tmp 4) rfl g4 rfl (tcs R Z32 (W : Int) (H : Int)) 38 (L4.out.below hb L4.out.lt) d HU.out HD.out HS.out
                refine StepsAt.cons 2 (fun _ _ _ h hb => h) (fun _ _ => rfl) rfl rfl (fun x w9 hb hd K hK => ?_) ?_
                · have h1 : Hid (x 1 = .agg (tcs R Z32 (W : Int) (H : Int)).toArray) := hd 1 (by kernel_rfl)
                  go_simp
                  refine calls_args (args2 := #[.agg (tcs R Z32 (W : Int) (H : Int)).toArray]) (by rw [h1.out]) ?_
                  refine (HMAY.out _).mono ?_
                  rintro e w99 ⟨rfl, hb99⟩
                  exact hK.out _ _ hb99 rfl
                exact StepsAt.done
              case fin =>
                intro x w9 hb hd
                have hx0 : x 0 = .agg (tcs R Z32 (W : Int) (H : Int)).toArray := hd 0 (by omega)
                have hx1 : x 1 = .agg (tcs R Z32 (W : Int) (H : Int)).toArray := hd 1 (by omega)
                have hx2 : x 2 = .bool b := hd 2 (by omega)
                rw [hx0, hx1, hx2]
                have N2 : Hid (Blk w9 g2 (tcs Z16 Z32 0 0) 38) := L2.out.below hb L2.out.lt
                have N3 : Hid (Below w.heap.size w w9) := L3.out.trans (hb.mono L3.out.size)
                clear hd hb L4 L2 L3 hx0 hx1 hx2 x
                refine AnyTill.any (S := fun _ => True) (m := 5) _ _ _ _ ?_
                refine AnyTill.one (i := 3) (by kernel_rfl) rfl (by rfl) (fun K hK => ?_)
                refine wp_store_blk 38 (.tmp 2) (.tmp 59) rfl g2 (tcs R Z32 (W : Int) (H : Int)) (tcs Z16 Z32 0 0) 38 rfl rfl N2.out HS.out HLT.out (tcs_one _ _ _ _) ?_
                refine hK.out _ _ (.inr trivial) ?_
                clear hK K
                simp only [Act.put]
                refine AnyTill.one (i := 4) (by kernel_rfl) rfl (by rfl) (fun K hK => ?_)
                have key := hK.out
                go_simp
                refine key _ _ (.inr trivial) ?_
                clear key hK K
                refine AnyTill.done (by kernel_rfl) ?_
                refine NoPanic.normal ?_
                try dsimp only
                go_wp2
                refine bodyPost_ret (v := .tuple #[.agg (tcs R Z32 (W : Int) (H : Int)).toArray, .bool b]) ?_ rfl ?_
                · exact ret_blk2U rfl _ _ g2 38 (tcs R Z32 (W : Int) (H : Int)) _ rfl rfl N2.out.setRow d HU.out HD.out HS.out
                · exact ⟨rfl, below_setRow' N3.out (by have := HG.out; omega) _⟩

end Go.Proofs.YtllncnnigjgadaaGreat

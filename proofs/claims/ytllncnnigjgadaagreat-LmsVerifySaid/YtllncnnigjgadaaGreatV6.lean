/-
  The program's Verify and Leaf and the document's answer alike; the law LmsVerify, walked: it answers true for all bytes.
-/
import Derived.Test.YtllncnnigjgadaaGreatV4
import Derived.Test.YtllncnnigjgadaaGreatV5
namespace Go.Proofs.YtllncnnigjgadaaGreat
open Go.RowKit

theorem rfVer_no (p s : List UInt8) (pv tv sv : Value) (w : World) (hp : Rd w.heap.size w pv p) (hs : Rd w.heap.size w sv s) (hn : ∀ k h, ¬ VFit p s k h) : Calls Tryz.prog 10 #[pv, tv, sv] w (One (.int .i64 3) w) := by
  by_cases hl : p.length = 56
  · have hRl : ((p.drop 8).take 16).length = 16 := by rw [List.length_take, List.length_drop, hl]; omega
    by_cases hf : ∃ k h, LFit (wd p 0) (wd (p.drop 4) 0) k h
    · obtain ⟨k, h, hf⟩ := hf
      obtain ⟨l36, l85⟩ := lng_le hf.1
      have hLL : llng k h = 4 + lng k + 4 + h * 32 := rfl
      have hb2 : (p.drop 4).take 4 = be 4 (typ k) := by rw [take4_wd _ (by rw [List.length_drop]; omega), hf.2.2.2]
      have hb1 : p.take 4 = be 4 (knd h) := by rw [take4_wd _ (by omega), hf.2.2.1]
      by_cases h1 : s.length = llng k h
      · by_cases hA : (s.drop 4).take 4 = (p.drop 4).take 4
        · by_cases hB : (s.drop (4 + lng k)).take 4 = p.take 4
          · by_cases hq : wd s 0 < 2 ^ h
            · refine absurd ⟨hl, hf, h1, ?_, ?_, hq⟩ (hn k h)
              · rw [wd_take _ _ (by omega)]
                exact (take4_iff _ _ (by rw [List.length_drop]; omega) (typ_lt hf.1)).1 (by rw [hA, hb2])
              · exact (take4_iff _ _ (by rw [List.length_drop]; omega) (knd_lt hf.2.1)).1 (by rw [hB, hb1])
            · exact rfVer_C p s _ k h pv tv sv w hp hs hl hf rfl h1 hA hB (by omega)
          · exact rfVer_B p s _ k h pv tv sv w hp hs hl hf rfl h1 hA hB
        · exact rfVer_A p s _ k h pv tv sv w hp hs hl hf rfl h1 hA
      · exact rfVer_len p s _ k h pv tv sv w hp hs hl hf rfl h1
    · obtain ⟨W, H, hform⟩ := rfForm_no pv p w hp hl (fun k h hh => hf ⟨k, h, hh⟩)
      exact rfVer_noform _ _ _ pv tv sv w hRl hform
  · exact rfVer_noform Z16 0 0 pv tv sv w Z16l (rfForm_len pv p w hp hl)
theorem rfVer_yes (p s text : List UInt8) (k h : Nat) (pv tv sv : Value) (w : World) (hp : Rd w.heap.size w pv p) (ht : Rd w.heap.size w tv text) (htl : text.length ≤ 90000) (hs : Rd w.heap.size w sv s) (hv : VFit p s k h) :
    Calls Tryz.prog 10 #[pv, tv, sv] w (One (.int .i64 (if lroot ((p.drop 8).take 16) ((s.drop 4).take (lng k)) text ((s.drop (4 + lng k)).drop 4) k h (wd s 0) = p.drop 24 then 0 else 16)) w) := by
  obtain ⟨hl, hf, h1, h2, h3, h4⟩ := hv
  obtain ⟨l36, l85⟩ := lng_le hf.1
  have hLL : llng k h = 4 + lng k + 4 + h * 32 := rfl
  have hb2 : (p.drop 4).take 4 = be 4 (typ k) := by rw [take4_wd _ (by rw [List.length_drop]; omega), hf.2.2.2]
  have hb1 : p.take 4 = be 4 (knd h) := by rw [take4_wd _ (by omega), hf.2.2.1]
  refine rfVer_good p s text _ k h pv tv sv w hp hs ht htl hl hf rfl h1 ?_ ?_ h4
  · rw [hb2]
    exact (take4_iff _ _ (by rw [List.length_drop]; omega) (typ_lt hf.1)).2 (by rw [← h2, wd_take _ _ (by omega)])
  · rw [hb1]
    exact (take4_iff _ _ (by rw [List.length_drop]; omega) (knd_lt hf.2.1)).2 h3

/-- Whatever the public key, the text and the signature are, both answer one error. -/
theorem ver5_both (p s text : List UInt8) (htl : text.length ≤ 90000) : ∃ E : Int,
    (∀ pv tv sv w, Rd w.heap.size w pv p → Rd w.heap.size w tv text → Rd w.heap.size w sv s → Calls Tryz.prog 9 #[pv, tv, sv] w (One (.int .i64 E) w)) ∧ (∀ pv tv sv w, Rd w.heap.size w pv p → Rd w.heap.size w tv text → Rd w.heap.size w sv s → Calls Tryz.prog 10 #[pv, tv, sv] w (One (.int .i64 E) w)) := by
  by_cases hv : ∃ k h, VFit p s k h
  · obtain ⟨k, h, hv⟩ := hv
    exact ⟨_, fun pv tv sv w hp ht hs => verT_yes p s text k h pv tv sv w hp ht (by omega) hs hv, fun pv tv sv w hp ht hs => rfVer_yes p s text k h pv tv sv w hp ht htl hs hv⟩
  · have hn : ∀ k h, ¬ VFit p s k h := fun k h hh => hv ⟨k, h, hh⟩
    exact ⟨3, fun pv tv sv w hp ht hs => verT_no p s pv tv sv w hp hs hn, fun pv tv sv w hp ht hs => rfVer_no p s pv tv sv w hp hs hn⟩
/-- Whatever the signature is, both tell one leaf, or one error. -/
theorem leaf5_both (s : List UInt8) : ∃ n E : Int, (∀ sv w, Rd w.heap.size w sv s → Calls Tryz.prog 7 #[sv] w (TwoD (.int .i64 n) (.int .i64 E) w)) ∧ (∀ sv w, Rd w.heap.size w sv s → Calls Tryz.prog 8 #[sv] w (TwoD (.int .i64 n) (.int .i64 E) w)) := by
  by_cases h : s.length < 4
  · exact ⟨0, 2, fun sv w hs => leafT_short sv s w hs h, fun sv w hs => rfLeaf_short sv s w hs h⟩
  · exact ⟨_, 0, fun sv w hs => leafT_yes sv s w hs (by omega), fun sv w hs => rfLeaf_yes sv s w hs (by omega)⟩

set_option maxRecDepth 100000 in
set_option maxHeartbeats 400000 in
theorem verify_long (p text s : List UInt8) (pv tv sv : Value) (w : World) (hp : Rd w.heap.size w pv p) (ht : Rd w.heap.size w tv text) (hs : Rd w.heap.size w sv s) (hh : 100 < p.length ∨ 2000 < text.length ∨ 9200 < s.length) : Calls Tryz.prog 3 #[pv, tv, sv] w (One (.bool true) w) := by
  obtain ⟨Ap, cp, rfl, _, _⟩ := hp.shape
  obtain ⟨At, ct, rfl, _, _⟩ := ht.shape
  obtain ⟨As, cs, rfl, _, _⟩ := hs.shape
  obtain ⟨np, hnp⟩ : ∃ n, p.length = n := ⟨_, rfl⟩
  obtain ⟨nt, hnt⟩ : ∃ n, text.length = n := ⟨_, rfl⟩
  obtain ⟨ns, hns⟩ : ∃ n, s.length = n := ⟨_, rfl⟩
  rw [hnp, hnt, hns] at hh ⊢
  clear hp ht hs hnp hnt hns
  have fin : ∀ w1 : World, Below w.heap.size w w1 → Calls Tryz.prog 6 #[] w1 (fun e w2 => e = .returned (.bool true) ∧ Below w.heap.size w w2) := fun w1 hb => (alive5_any w1).mono (by rintro e w2 ⟨rfl, hb2⟩; exact ⟨rfl, hb.trans (hb2.mono hb.size)⟩)
  have FIN := Lib.hid fin
  clear fin
  by_cases h1 : 100 < np
  · have z1 : decide ((100 : Int) < (np : Int)) = true := decide_eq_true (by omega)
    clear hh h1
    go_enter Tryz.func3, Tryz.ntmps3
    go_wp2_with fail
    refine (FIN.out _ (Below.refl _ _)).mono ?_
    rintro e w2 ⟨rfl, hb⟩
    have HB := Lib.hid hb
    clear hb
    go_wp2
    go_ret
    exact ⟨rfl, HB.out⟩
  · have z1 : decide ((100 : Int) < (np : Int)) = false := decide_eq_false (by omega)
    by_cases h2 : 2000 < nt
    · have z2 : decide ((2000 : Int) < (nt : Int)) = true := decide_eq_true (by omega)
      clear hh h1 h2
      go_enter Tryz.func3, Tryz.ntmps3
      go_wp2_with fail
      refine (FIN.out _ (Below.refl _ _)).mono ?_
      rintro e w2 ⟨rfl, hb⟩
      have HB := Lib.hid hb
      clear hb
      go_wp2
      go_ret
      exact ⟨rfl, HB.out⟩
    · have z2 : decide ((2000 : Int) < (nt : Int)) = false := decide_eq_false (by omega)
      have z3 : decide ((9200 : Int) < (ns : Int)) = true := decide_eq_true (by omega)
      clear hh h1 h2
      go_enter Tryz.func3, Tryz.ntmps3
      go_wp2_with fail
      refine (FIN.out _ (Below.refl _ _)).mono ?_
      rintro e w2 ⟨rfl, hb⟩
      have HB := Lib.hid hb
      clear hb
      go_wp2
      go_ret
      exact ⟨rfl, HB.out⟩

set_option maxRecDepth 100000 in
set_option maxHeartbeats 2000000 in
theorem verify_short (p text s : List UInt8) (pv tv sv : Value) (w : World) (hp : Rd w.heap.size w pv p) (ht : Rd w.heap.size w tv text) (hs : Rd w.heap.size w sv s) (h1 : p.length ≤ 100) (h2 : text.length ≤ 2000) (h3 : s.length ≤ 9200) : Calls Tryz.prog 3 #[pv, tv, sv] w (One (.bool true) w) := by
  obtain ⟨E, p1, p2⟩ := ver5_both p s text (by omega)
  obtain ⟨N, G, q1, q2⟩ := leaf5_both s
  have P1 := Lib.hid p1
  have P2 := Lib.hid p2
  have Q1 := Lib.hid q1
  have Q2 := Lib.hid q2
  obtain ⟨i0, hi0, hz0, hz1, hz2⟩ := info_parts info5
  have HIN := Lib.hid hi0
  have H0 := Lib.hid hz0
  have H1 := Lib.hid hz1
  have H2 := Lib.hid hz2
  have HP := Lib.hid hp
  have HT := Lib.hid ht
  have HS := Lib.hid hs
  obtain ⟨Ap, cp, rfl, _, _⟩ := hp.shape
  obtain ⟨At, ct, rfl, _, _⟩ := ht.shape
  obtain ⟨As, cs, rfl, hcs, hms⟩ := hs.shape
  unfold maxLen at hms
  obtain ⟨np, hnp⟩ : ∃ n, p.length = n := ⟨_, rfl⟩
  obtain ⟨nt, hnt⟩ : ∃ n, text.length = n := ⟨_, rfl⟩
  obtain ⟨ns, hns⟩ : ∃ n, s.length = n := ⟨_, rfl⟩
  have HNS := Lib.hid hns
  rw [hnp] at h1 HP ⊢
  rw [hnt] at h2 HT ⊢
  rw [hns] at h3 HS hcs ⊢
  have z1 : decide ((100 : Int) < (np : Int)) = false := decide_eq_false (by omega)
  have z2 : decide ((2000 : Int) < (nt : Int)) = false := decide_eq_false (by omega)
  have z3 : decide ((9200 : Int) < (ns : Int)) = false := decide_eq_false (by omega)
  clear hp ht hs hnp hnt hns p1 p2 q1 q2 hi0 hz0 hz1 hz2 h1 h2
  go_enter Tryz.func3, Tryz.ntmps3
  go_wp2_with (at_builtin; refine wpList_app rfl _ _ 22 rfl 5 i0 Tryz.underlying22 HIN.out H0.out H1.out H2.out w.heap.size w.heap.size _ _ [] s rfl (Own.madeS 5 w) rfl (HS.out.below ((Below.refl _ _).alloc (Nat.le_refl _) _)) (by rw [HNS.out]; simp; omega) (by simp) ?_)
  intro ov w3 hown hb2
  have hb : Below w.heap.size w w3 := ((Below.refl _ _).alloc (Nat.le_refl _) _).trans hb2
  have CB := Lib.hid hb
  have CO : Hid (Rd w3.heap.size w3 ov s) := (show Own 5 w3 _ ov s by simpa using hown).rd
  clear hown hb hb2 z1 z2 z3
  go_wp2_with fail
  refine (Q1.out _ _ CO.out).mono ?_
  rintro e w4 ⟨rfl, hb⟩
  have DB : Hid (Below w.heap.size w w4) := CB.out.trans (hb.mono CB.out.size)
  have DO : Hid (Rd w4.heap.size w4 ov s) := (CO.out.below hb).more hb.size
  clear hb CB CO
  go_wp2_with fail
  refine (Q2.out _ _ ((HS.out.below DB.out).more DB.out.size)).mono ?_
  rintro e w5 ⟨rfl, hb⟩
  have EB : Hid (Below w.heap.size w w5) := DB.out.trans (hb.mono DB.out.size)
  have EO : Hid (Rd w5.heap.size w5 ov s) := (DO.out.below hb).more hb.size
  clear hb DB DO
  go_wp2_with fail
  refine (alive5_any _).mono ?_
  rintro e w6 ⟨rfl, hb⟩
  have FB : Hid (Below w.heap.size w w6) := EB.out.trans (hb.mono EB.out.size)
  have FO : Hid (Rd w6.heap.size w6 ov s) := (EO.out.below hb).more hb.size
  clear hb EB EO
  go_wp2_with fail
  refine (P1.out _ _ _ _ ((HP.out.below FB.out).more FB.out.size) ((HT.out.below FB.out).more FB.out.size) FO.out).mono ?_
  rintro e w7 ⟨rfl, hb⟩
  have GB : Hid (Below w.heap.size w w7) := FB.out.trans (hb.mono FB.out.size)
  have GO_ : Hid (Rd w7.heap.size w7 ov s) := (FO.out.below hb).more hb.size
  clear hb FB FO
  go_wp2_with fail
  refine (P2.out _ _ _ _ ((HP.out.below GB.out).more GB.out.size) ((HT.out.below GB.out).more GB.out.size) ((HS.out.below GB.out).more GB.out.size)).mono ?_
  rintro e u ⟨rfl, hb⟩
  have LB : Hid (Below w.heap.size w u) := GB.out.trans (hb.mono GB.out.size)
  have fO := GO_.out.below hb
  have fS := HS.out.below LB.out
  clear hb GB GO_
  obtain ⟨A2, c2, rfl, _, _⟩ := fO.shape
  have t1 := run_string_rd 22 9 5 Tryz.underlying22 Tryz.underlying5 Tryz.underlying9 fO
  have t2 := run_string_rd 22 9 5 Tryz.underlying22 Tryz.underlying5 Tryz.underlying9 fS
  rw [HNS.out] at t1 ⊢
  clear fO fS
  go_wp2
  go_ret
  exact ⟨rfl, LB.out⟩

theorem verify_all (pv : Value) (p : List UInt8) (tv : Value) (text : List UInt8) (sv : Value) (s : List UInt8) (w : World) (hp : Rd w.heap.size w pv p) (ht : Rd w.heap.size w tv text) (hs : Rd w.heap.size w sv s) : Calls Tryz.prog 3 #[pv, tv, sv] w (One (.bool true) w) := by
  by_cases h : 100 < p.length ∨ 2000 < text.length ∨ 9200 < s.length
  · exact verify_long p text s pv tv sv w hp ht hs h
  · exact verify_short p text s pv tv sv w hp ht hs (by omega) (by omega) (by omega)
end Go.Proofs.YtllncnnigjgadaaGreat

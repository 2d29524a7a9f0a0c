/-
  The document's Take. Each theorem states its own conditions.
-/
import Derived.Test.YteckenlbelgknaaC4
import Derived.Test.YteckenlbelgknaaER
namespace Go.Proofs.Yteckenlbelgknaa
open Go.RowKit

/-- The call answers what is in the frame ahead, what is behind it, and the fault; what was there stays. -/
def CutC (B : Nat) (r : List UInt8 × List UInt8 × Nat) (w : World) (e : Ending) (w' : World) : Prop :=
  ∃ v1 v2, e = .returned (.tuple #[v1, v2, .int .i64 (r.2.2 : Int)]) ∧ Rd B w' v1 r.1 ∧ Rd B w' v2 r.2.1 ∧ Below w.heap.size w w'
set_option maxRecDepth 100000 in
set_option maxHeartbeats 4000000 in
theorem rfTake_nil (A : Option Addr) (c : Nat) (B : Nat) (w : World) : Calls Try.prog 10 #[.slice A 0 c] w (CutC B (takeC []) w) := by
  go_enter Try.func10, Try.ntmps10
  go_wp2
  go_ret3
  exact ⟨_, _, rfl, Rd.nil _ _, Rd.nil _ _, Below.refl _ _⟩
/-- Four bytes in memory of their own. -/
def FourV (s : Nat) (v : Value) (w : World) : Prop := (∃ g, v = .slice (some ⟨g, 0, none⟩) 4 4) ∧ Rd w.heap.size w v (sum4 s)
theorem FourV.keep {s : Nat} {v : Value} {w w' : World} (h : FourV s v w) (hb : Below w.heap.size w w') : FourV s v w' := ⟨h.1, (h.2.below hb).more hb.size⟩
set_option maxRecDepth 100000 in
set_option maxHeartbeats 4000000 in
theorem rfTake_cons (a : Addr) (x : UInt8) (t : List UInt8) (n c : Nat) (B : Nat) (w : World) (hr : Rd B w (.slice (some a) n c) (x :: t)) (hB : B ≤ w.heap.size) (hn : n = t.length + 1) (hc : n ≤ c) (hcm : c ≤ 9223372036854775807) : Calls Try.prog 10 #[.slice (some a) n c] w (CutC B (takeC (x :: t)) w) := by
  have hz : ((n : Int) == 0) = false := by simp; omega
  have hc0 : w.cell? a = some (.int .u8 (x.toNat : Int)) := by
    obtain ⟨A', c', hv, _, _, _, hcell⟩ := hr
    injection hv with h1 h2 h3
    subst h1
    have h := (hcell a rfl).2 0 (by simp)
    simpa [Addr.add] using h
  have hd := hr.drop 1 (by omega)
  rw [show (x :: t).drop 1 = t from rfl] at hd
  have hcut := takeN_lt t
  have hrest := takeN_rest t
  have HR := Lib.hid hr
  have HD := Lib.hid hd
  clear hr hd
  by_cases hx : x = 167
  · subst hx
    go_enter Try.func10, Try.ntmps10
    by_cases hc1 : c = 1
    · obtain rfl : t = [] := List.eq_nil_of_length_eq_zero (by omega)
      obtain rfl : n = 1 := hn
      subst hc1
      have hd2 := HD.out
      rw [if_pos rfl] at hd2
      have HD2 := Lib.hid hd2
      clear hd2
      go_wp2_with fail
      refine (refTake_any _ [] B w HD2.out hB).mono ?_
      rintro e w1 ⟨v1, rfl, hr1, hb1⟩
      have HB1 := Lib.hid hb1
      clear hr1 hb1
      rw [show takeN [] = (0, [], 2) from rfl]
      go_wp2
      go_ret3
      exact ⟨_, _, rfl, Rd.nil _ _, Rd.nil _ _, HB1.out⟩
    have hd2 := HD.out
    rw [if_neg hc1] at hd2
    have HD2 := Lib.hid hd2
    have HC := Lib.hid hcut
    have HRS := Lib.hid hrest
    clear hd2 hcut hrest
    have hr0 : Hid (Rd B w (.slice (some a) (t.length + 1) c) (167 :: t)) := Lib.hid (by rw [← hn]; exact HR.out)
    go_wp2_with fail
    refine (refTake_any _ t B w (by subst hn; simpa [Addr.add] using HD2.out) hB).mono ?_
    rintro e w1 ⟨v1, rfl, hr1, hb1⟩
    generalize hT : takeN t = r at *
    obtain ⟨N, rest, er⟩ := r
    have hn2 : (N : Int) ≤ 18446744073709551615 := by have h : N < 18446744073709551616 := HC.out; omega
    have hrl : rest.length ≤ t.length := HRS.out
    have hr1' : Rd B w1 v1 rest := hr1
    have HR1 := Lib.hid hr1'
    have HB1 := Lib.hid hb1
    have HT := Lib.hid hT
    have HRL := Lib.hid hrl
    clear hr1 hr1' hb1 hT HC HRS HD HD2 hrl
    by_cases he : er = 0
    · subst he
      by_cases hab : 100000 < N
      · have hab2 : decide ((100000 : Int) < (N : Int)) = true := by simp; omega
        have HS := Lib.hid (show takeC (167 :: t) = ([], [], 5) by rw [takeC, HT.out, if_neg (by simp)]; dsimp only; rw [if_neg (by simp), if_pos hab])
        go_wp2
        go_ret3
        rw [HS.out]
        exact ⟨_, _, rfl, Rd.nil _ _, Rd.nil _ _, HB1.out⟩
      have hab2 : decide ((100000 : Int) < (N : Int)) = false := by simp; omega
      obtain ⟨A1, c1, hv1, hcc1, hm1⟩ := HR1.out.shape
      unfold maxLen at hm1
      subst hv1
      obtain ⟨m, hm⟩ : ∃ q, rest.length = q := ⟨_, rfl⟩
      have HM := Lib.hid hm
      rw [hm] at HR1 hcc1 ⊢
      clear hm
      by_cases hsh : m < N + 4
      · have hsh2 : decide ((m : Int) < (N : Int) + 4) = true := by simp; omega
        have HS := Lib.hid (show takeC (167 :: t) = ([], [], 2) by rw [takeC, HT.out, if_neg (by simp)]; dsimp only; rw [if_neg (by simp), if_neg hab, if_pos (by rw [HM.out]; exact hsh)])
        go_wp2
        go_ret3
        rw [HS.out]
        exact ⟨_, _, rfl, Rd.nil _ _, Rd.nil _ _, HB1.out⟩
      have hsh2 : decide ((m : Int) < (N : Int) + 4) = false := by simp; omega
      have hml : m ≤ t.length := by have := HRL.out; have := HM.out; omega
      cases A1 with
      | none =>
        obtain ⟨A', c', hv', h1', h2', h3', _⟩ := HR1.out
        injection hv' with e1 e2 e3
        subst e1 e3
        have := h3' rfl
        omega
      | some a1 =>
      go_wp2_with fail
      have hsub := (hr0.out.below (HB1.out.mono hB)).take (t.length + 1 - m + N) (by omega)
      have hB1 := HB1.out.size
      refine (rfSum_any _ _ w1 (hsub.more (by omega))).mono ?_
      rintro e w2 ⟨rfl, rfl⟩
      obtain ⟨s, hs⟩ : ∃ q, sumC ((167 :: t).take (t.length + 1 - m + N)) = q := ⟨_, rfl⟩
      have hsl : s < 4294967296 := by rw [← hs]; exact moreC_lt _ _ (by decide)
      have HSS := Lib.hid hs
      rw [hs]
      clear hs hsub
      go_wp2
      obtain ⟨a1m, ha1m⟩ : ∃ q, a1 = q := ⟨_, rfl⟩
      have RR := Lib.hid (HR1.out)
      have hB2 : B ≤ w1.heap.size := Nat.le_trans hB HB1.out.size
      have hNm : N + 4 ≤ m := by omega
      have hcN : ¬ c1 = N := by omega
      clear ha1m
      have hrd4 : ∀ W, Below w1.heap.size w1 W → Rd B W (.slice (some (a1.add N)) 4 (c1 - N)) ((rest.drop N).take 4) := by
        intro W hW
        have h1 := ((RR.out.below (hW.mono hB2)).drop N (by omega))
        rw [if_neg hcN] at h1
        have h2 := h1.take 4 (by omega)
        exact h2
      have H4 := Lib.hid hrd4
      clear hrd4
      refine wp_region_rely3 20 0 (fun x => ⟨List.toArray (.slice (some a) (t.length + 1) c :: undef :: .slice none 0 0 :: .slice none 0 0 :: .int IntKind.i64 0 :: .int IntKind.u64 ↑N :: .slice (some a1) m c1 :: .int IntKind.i64 0 :: .int IntKind.i64 ↑N :: .int IntKind.u32 ↑s :: .slice (some a) (t.length + 1) c :: .int IntKind.i64 (↑t.length + 1) :: .bool false :: .slice (some a) (t.length + 1) c :: .pointer (some a) :: .int IntKind.u8 167 :: .bool false :: .tuple #[Value.int IntKind.u64 ↑N, Value.slice (some a1) m c1, Value.int IntKind.i64 0] :: .slice (some a) (t.length + 1) c :: .slice (some { block := a.block, off := a.off + 1 }) t.length (c - 1) :: .tuple #[Value.int IntKind.u64 ↑N, Value.slice (some a1) m c1, Value.int IntKind.i64 0] :: .int IntKind.u64 ↑N :: .slice (some a1) m c1 :: .int IntKind.i64 0 :: .int IntKind.i64 0 :: .bool false :: undef :: .int IntKind.u64 ↑N :: .bool false :: .int IntKind.u64 ↑N :: .int IntKind.i64 ↑N :: .slice (some a1) m c1 :: .int IntKind.i64 ↑m :: .int IntKind.i64 ↑N :: .int IntKind.i64 (↑N + 4) :: .bool false :: .slice (some a) (t.length + 1) c :: .slice (some a) (t.length + 1) c :: .int IntKind.i64 (↑t.length + 1) :: .slice (some a1) m c1 :: .int IntKind.i64 ↑m :: .int IntKind.i64 (↑t.length + 1 - ↑m) :: .int IntKind.i64 ↑N :: .int IntKind.i64 (↑t.length + 1 - ↑m + ↑N) :: .slice (some a) (t.length + 1 - m + N) c :: .int IntKind.u32 ↑s :: x 0 :: x 1 :: x 2 :: x 3 :: x 4 :: x 5 :: x 6 :: x 7 :: x 8 :: x 9 :: x 10 :: x 11 :: x 12 :: x 13 :: x 14 :: x 15 :: x 16 :: x 17 :: x 18 :: x 19 :: undef :: undef :: undef :: undef :: undef :: undef :: undef :: []), []⟩) (fun jj => ([eqV (.int .u32 (s : Int)), eqV (.int .u32 ((s / 16777216 : Nat) : Int)), eqV (.int .u8 (((UInt8.ofNat (s / 16777216)).toNat : Nat) : Int)), eqV (.int .u32 (s : Int)), eqV (.int .u32 ((s / 65536 : Nat) : Int)), eqV (.int .u8 (((UInt8.ofNat (s / 65536)).toNat : Nat) : Int)), eqV (.int .u32 (s : Int)), eqV (.int .u32 ((s / 256 : Nat) : Int)), eqV (.int .u8 (((UInt8.ofNat (s / 256)).toNat : Nat) : Int)), eqV (.int .u32 (s : Int)), eqV (.int .u8 (((UInt8.ofNat s).toNat : Nat) : Int)), FourV s, eqV (.string ⟨(sum4 s).toArray⟩), eqV (.slice (some a1) m c1), eqV (.int .i64 (N : Int)), eqV (.int .i64 (N : Int)), eqV (.int .i64 ((N : Int) + 4)), eqV (.slice (some (a1.add N)) 4 (c1 - N)), eqV (.string ⟨((rest.drop N).take 4).toArray⟩), eqV (.bool (!decide (sum4 s = (rest.drop N).take 4)))] : List (Value → World → Prop)).getD jj (fun _ _ => True)) rfl ⟨fun kk => [_, _, _, _, _, _, _, _, _, _, _, _, _, _, _, _, _, _, _, _].getD kk undef, rfl⟩ (by kernel_rfl) (by kernel_rfl) ?steps ?fin
      case steps =>
        refine StepsAt.val 0 (.int .u32 (s : Int)) rfl (fun _ _ => rfl) rfl rfl (fun x wx hb hd => ?_) ?_
        · first | (go_simp; done) | (go_simp; rfl)
        refine StepsAt.val 1 (.int .u32 ((s / 16777216 : Nat) : Int)) rfl (fun _ _ => rfl) rfl rfl (fun x wx hb hd => ?_) ?_
        · have h0 : x 0 = .int .u32 (s : Int) := hd 0 (by kernel_rfl)
          rw [h0]
          first | (go_simp; done) | (go_simp; rfl) | (go_simp; simp; done) | (go_simp; simp; omega)
        refine StepsAt.val 2 (.int .u8 (((UInt8.ofNat (s / 16777216)).toNat : Nat) : Int)) rfl (fun _ _ => rfl) rfl rfl (fun x wx hb hd => ?_) ?_
        · have h1 : x 1 = .int .u32 ((s / 16777216 : Nat) : Int) := hd 1 (by kernel_rfl)
          rw [h1]
          first | (go_simp; done) | (go_simp; rfl) | (go_simp; simp; done) | (go_simp; simp; omega)
        refine StepsAt.val 3 (.int .u32 (s : Int)) rfl (fun _ _ => rfl) rfl rfl (fun x wx hb hd => ?_) ?_
        · first | (go_simp; done) | (go_simp; rfl)
        refine StepsAt.val 4 (.int .u32 ((s / 65536 : Nat) : Int)) rfl (fun _ _ => rfl) rfl rfl (fun x wx hb hd => ?_) ?_
        · have h3 : x 3 = .int .u32 (s : Int) := hd 3 (by kernel_rfl)
          rw [h3]
          first | (go_simp; done) | (go_simp; rfl) | (go_simp; simp; done) | (go_simp; simp; omega)
        refine StepsAt.val 5 (.int .u8 (((UInt8.ofNat (s / 65536)).toNat : Nat) : Int)) rfl (fun _ _ => rfl) rfl rfl (fun x wx hb hd => ?_) ?_
        · have h4 : x 4 = .int .u32 ((s / 65536 : Nat) : Int) := hd 4 (by kernel_rfl)
          rw [h4]
          first | (go_simp; done) | (go_simp; rfl) | (go_simp; simp; done) | (go_simp; simp; omega)
        refine StepsAt.val 6 (.int .u32 (s : Int)) rfl (fun _ _ => rfl) rfl rfl (fun x wx hb hd => ?_) ?_
        · first | (go_simp; done) | (go_simp; rfl)
        refine StepsAt.val 7 (.int .u32 ((s / 256 : Nat) : Int)) rfl (fun _ _ => rfl) rfl rfl (fun x wx hb hd => ?_) ?_
        · have h6 : x 6 = .int .u32 (s : Int) := hd 6 (by kernel_rfl)
          rw [h6]
          first | (go_simp; done) | (go_simp; rfl) | (go_simp; simp; done) | (go_simp; simp; omega)
        refine StepsAt.val 8 (.int .u8 (((UInt8.ofNat (s / 256)).toNat : Nat) : Int)) rfl (fun _ _ => rfl) rfl rfl (fun x wx hb hd => ?_) ?_
        · have h7 : x 7 = .int .u32 ((s / 256 : Nat) : Int) := hd 7 (by kernel_rfl)
          rw [h7]
          first | (go_simp; done) | (go_simp; rfl) | (go_simp; simp; done) | (go_simp; simp; omega)
        refine StepsAt.val 9 (.int .u32 (s : Int)) rfl (fun _ _ => rfl) rfl rfl (fun x wx hb hd => ?_) ?_
        · first | (go_simp; done) | (go_simp; rfl)
        refine StepsAt.val 10 (.int .u8 (((UInt8.ofNat s).toNat : Nat) : Int)) rfl (fun _ _ => rfl) rfl rfl (fun x wx hb hd => ?_) ?_
        · have h9 : x 9 = .int .u32 (s : Int) := hd 9 (by kernel_rfl)
          rw [h9]
          first | (go_simp; done) | (go_simp; rfl) | (go_simp; simp; done) | (go_simp; simp; omega)
        refine StepsAt.cons 11 (fun _ _ _ h hb => FourV.keep h hb) (fun _ _ => rfl) rfl rfl (fun x wx hb hd K hK => ?_) ?_
        · have h2 : x 2 = .int .u8 (((UInt8.ofNat (s / 16777216)).toNat : Nat) : Int) := hd 2 (by kernel_rfl)
          have h5 : x 5 = .int .u8 (((UInt8.ofNat (s / 65536)).toNat : Nat) : Int) := hd 5 (by kernel_rfl)
          have h8 : x 8 = .int .u8 (((UInt8.ofNat (s / 256)).toNat : Nat) : Int) := hd 8 (by kernel_rfl)
          have h10 : x 10 = .int .u8 (((UInt8.ofNat s).toNat : Nat) : Int) := hd 10 (by kernel_rfl)
          rw [h2, h5, h8, h10] at hK
          have he : ∀ o, (wx.alloc o).heap.size = wx.heap.size + 1 := fun o => by simp
          have HK := Lib.hid hK
          clear hK
          go_simp
          refine HK.out.out _ _ ((Below.refl _ _).alloc (Nat.le_refl _) _) ⟨⟨_, rfl⟩, ?_⟩
          rw [he]
          exact Rd.four _ _ wx _ _ _ _ _ _ _ _ (by simp) (by simp) (by simp) (by simp)
        refine StepsAt.val 12 (.string ⟨(sum4 s).toArray⟩) rfl (fun _ _ => rfl) rfl rfl (fun x wx hb hd => ?_) ?_
        · obtain ⟨⟨g, hg⟩, hr4⟩ : FourV s (x 11) wx := hd 11 (by kernel_rfl)
          have hst := run_string_rd 22 9 5 Try.underlying22 Try.underlying5 Try.underlying9 (hg ▸ hr4)
          rw [hg]
          first | (go_simp; done) | (go_simp; rfl)
        refine StepsAt.val 13 (.slice (some a1) m c1) rfl (fun _ _ => rfl) rfl rfl (fun x wx hb hd => ?_) ?_
        · first | (go_simp; done) | (go_simp; rfl)
        refine StepsAt.val 14 (.int .i64 (N : Int)) rfl (fun _ _ => rfl) rfl rfl (fun x wx hb hd => ?_) ?_
        · first | (go_simp; done) | (go_simp; rfl)
        refine StepsAt.val 15 (.int .i64 (N : Int)) rfl (fun _ _ => rfl) rfl rfl (fun x wx hb hd => ?_) ?_
        · first | (go_simp; done) | (go_simp; rfl)
        refine StepsAt.val 16 (.int .i64 ((N : Int) + 4)) rfl (fun _ _ => rfl) rfl rfl (fun x wx hb hd => ?_) ?_
        · have h15 : x 15 = .int .i64 (N : Int) := hd 15 (by kernel_rfl)
          rw [h15]
          have hw4 : IntKind.i64.wrap ((N : Int) + 4) = (N : Int) + 4 := by rw [IntKind.wrap_i64]; omega
          first | (go_simp; done) | (go_simp; rfl) | (go_simp; rw [hw4])
        refine StepsAt.val 17 (.slice (some (a1.add N)) 4 (c1 - N)) rfl (fun _ _ => rfl) rfl rfl (fun x wx hb hd => ?_) ?_
        · have h13 : x 13 = .slice (some a1) m c1 := hd 13 (by kernel_rfl)
          have h14 : x 14 = .int .i64 (N : Int) := hd 14 (by kernel_rfl)
          have h16 : x 16 = .int .i64 ((N : Int) + 4) := hd 16 (by kernel_rfl)
          rw [h13, h14, h16]
          have hT : ((N : Int) + 4).toNat = N + 4 := by omega
          have hN4 : N + 4 - N = 4 := by omega
          go_simp
          intro h
          exact absurd (h (by omega)) (by omega)
        refine StepsAt.val 18 (.string ⟨((rest.drop N).take 4).toArray⟩) rfl (fun _ _ => rfl) rfl rfl (fun x wx hb hd => ?_) ?_
        · have h17 : x 17 = .slice (some (a1.add N)) 4 (c1 - N) := hd 17 (by kernel_rfl)
          rw [h17]
          have hst := run_string_rd 22 9 5 Try.underlying22 Try.underlying5 Try.underlying9 (H4.out wx hb)
          first | (go_simp; done) | (go_simp; rfl)
        refine StepsAt.val 19 (.bool (!decide (sum4 s = (rest.drop N).take 4))) rfl (fun _ _ => rfl) rfl rfl (fun x wx hb hd => ?_) ?_
        · have h12 : x 12 = .string ⟨(sum4 s).toArray⟩ := hd 12 (by kernel_rfl)
          have h18 : x 18 = .string ⟨((rest.drop N).take 4).toArray⟩ := hd 18 (by kernel_rfl)
          rw [h12, h18]
          go_simp
          rw [Bool.eq_iff_iff]
          simp
        exact StepsAt.done
      case fin =>
        intro x wx hb hd
        have hx19 : x 19 = .bool (!decide (sum4 s = (rest.drop N).take 4)) := hd 19 (by omega)
        have EB := Lib.hid hb
        refine AnyTill.any (S := fun _ => True) (m := 20) _ _ _ _ ?_
        rw [hx19]
        clear hd hb hx19
        refine AnyTill.done (by kernel_rfl) ?_
        refine NoPanic.normal ?_
        try dsimp only
        have hsum : sumC ((167 :: t).take ((167 :: t).length - rest.length + N)) = s := by
          rw [HM.out]
          exact HSS.out
        have EW : Hid (Below w.heap.size w wx) := Lib.hid (HB1.out.trans (EB.out.mono hB1))
        by_cases hq : sum4 s = (rest.drop N).take 4
        · have HS := Lib.hid (show takeC (167 :: t) = (rest.take N, rest.drop (N + 4), 0) by
            rw [takeC, HT.out, if_neg (by simp)]
            dsimp only
            rw [if_neg (by simp), if_neg hab, if_neg (by rw [HM.out]; exact hsh), if_neg (by rw [hsum]; exact fun h => h hq)])
          rw [decide_eq_true hq]
          have h16 := RR.out.below (EB.out.mono hB2)
          have D1 := Lib.hid (h16.take N (by omega))
          have D2 := Lib.hid (h16.drop (N + 4) (by omega))
          clear hq hsum h16 EB HSS H4
          by_cases hc4 : c1 = N + 4
          · subst hc4
            have d2 := D2.out
            rw [if_pos rfl] at d2
            have D2' := Lib.hid d2
            clear d2 D2
            go_wp2
            refine wp_region_quiet_lit (by kernel_rfl) (by kernel_rfl) ?_
            repeat (first | go_big_quiet_step (fail) | quiet_step (fail))
            refine wpQuiet_nil ?_
            intro _ hw'
            obtain ⟨nq, hw''⟩ := hw'
            subst hw''
            have EN : Hid (Below w.heap.size w (wx.drewN nq)) := Below.drewN' EW.out
            go_wp2
            go_ret3
            rw [HS.out]
            exact ⟨_, _, rfl, D1.out.keep fun _ _ => rfl, D2'.out.keep fun _ _ => rfl, EN.out⟩
          · have d2 := D2.out
            rw [if_neg hc4] at d2
            have D2' := Lib.hid d2
            clear d2 D2
            go_wp2
            refine wp_region_quiet_lit (by kernel_rfl) (by kernel_rfl) ?_
            repeat (first | go_big_quiet_step (fail) | quiet_step (fail))
            refine wpQuiet_nil ?_
            intro _ hw'
            obtain ⟨nq, hw''⟩ := hw'
            subst hw''
            have EN : Hid (Below w.heap.size w (wx.drewN nq)) := Below.drewN' EW.out
            go_wp2
            go_ret3
            rw [HS.out]
            exact ⟨_, _, rfl, D1.out.keep fun _ _ => rfl, D2'.out.keep fun _ _ => rfl, EN.out⟩
        · have HS := Lib.hid (show takeC (167 :: t) = ([], [], 4) by
            rw [takeC, HT.out, if_neg (by simp)]
            dsimp only
            rw [if_neg (by simp), if_neg hab, if_neg (by rw [HM.out]; exact hsh), if_pos (by rw [hsum]; exact hq)])
          rw [decide_eq_false hq]
          clear hq hsum EB HSS H4
          go_wp2
          go_ret3
          rw [HS.out]
          exact ⟨_, _, rfl, Rd.nil _ _, Rd.nil _ _, EW.out⟩
    · have he1 : ((er : Int) != 0) = true := by simp; omega
      have HS := Lib.hid (show takeC (167 :: t) = ([], [], er) by rw [takeC, HT.out, if_neg (by simp)]; dsimp only; rw [if_pos he])
      go_wp2
      go_ret3
      rw [HS.out]
      exact ⟨_, _, rfl, Rd.nil _ _, Rd.nil _ _, HB1.out⟩
  · have hx2 : ((x.toNat : Int) != 167) = true := by
      have : x.toNat ≠ 167 := fun h => hx (UInt8.toNat_inj.1 (by simpa using h))
      simp; omega
    go_enter Try.func10, Try.ntmps10
    go_wp2
    go_ret3
    rw [takeC, if_pos hx]
    exact ⟨_, _, rfl, Rd.nil _ _, Rd.nil _ _, Below.refl _ _⟩
/-- What stands ahead of any bytes, as a frame. -/
theorem rfTakeC_any (v : Value) (l : List UInt8) (B : Nat) (w : World) (hr : Rd B w v l) (hB : B ≤ w.heap.size) : Calls Try.prog 10 #[v] w (CutC B (takeC l) w) := by
  obtain ⟨A, c, rfl, hc, hm⟩ := hr.shape
  unfold maxLen at hm
  cases l with
  | nil => exact rfTake_nil A c B w
  | cons x t =>
    cases A with
    | none =>
      obtain ⟨A', c', hv, h1, _, h3, _⟩ := hr
      injection hv with e1 e2 e3
      subst e1 e3
      have := h3 rfl
      simp only [List.length_cons] at h1
      omega
    | some a => exact rfTake_cons a x t (x :: t).length c B w hr hB rfl hc (by omega)
end Go.Proofs.Yteckenlbelgknaa

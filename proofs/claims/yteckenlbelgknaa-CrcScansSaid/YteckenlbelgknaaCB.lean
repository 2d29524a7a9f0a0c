/-
  The frame ahead by places; bytes.Equal. Each theorem states its own conditions.
-/
import Derived.Test.YteckenlbelgknaaC9
namespace Go.Proofs.Yteckenlbelgknaa
open Go.RowKit

theorem takeN_nine (t : List UInt8) : (takeN (t.take 9)).1 = (takeN t).1 ∧ (takeN (t.take 9)).2.2 = (takeN t).2.2 := by
  cases t with
  | nil => exact ⟨rfl, rfl⟩
  | cons k u =>
    have e : (k :: u).take 9 = k :: u.take 8 := rfl
    rw [e]
    unfold takeN
    dsimp only
    have hh : (u.take 8).head? = u.head? := by cases u <;> rfl
    rw [hh]
    by_cases h1 : 8 < k.toNat ∨ (0 < k.toNat ∧ u.head? = some 0)
    · rw [if_pos h1, if_pos h1]
      exact ⟨rfl, rfl⟩
    · rw [if_neg h1, if_neg h1]
      have hk : k.toNat ≤ 8 := by omega
      by_cases h2 : u.length < k.toNat
      · rw [if_pos (by rw [List.length_take]; omega), if_pos h2]
        exact ⟨rfl, rfl⟩
      · rw [if_neg (by rw [List.length_take]; omega), if_neg h2, List.take_take, Nat.min_eq_left hk]
        exact ⟨rfl, rfl⟩
/-- The frame ahead by places. -/
theorem takeC_at (t : List UInt8) (N : Nat) (h : (takeN t).2.2 = 0) (hN : (takeN t).1 = N) : takeC (167 :: t) = if 100000 < N then ([], [], 5) else if (167 :: t).length < 2 + wid N + N + 4 then ([], [], 2) else if sum4 (sumC ((167 :: t).take (2 + wid N + N))) ≠ ((167 :: t).drop (2 + wid N + N)).take 4 then ([], [], 4) else (((167 :: t).take (2 + wid N + N)).drop (2 + wid N), (167 :: t).drop (2 + wid N + N + 4), 0) := by
  obtain ⟨n, X, er, htk⟩ : ∃ a b c, takeN t = (a, b, c) := ⟨_, _, _, rfl⟩
  rw [htk] at h hN
  dsimp only at h hN
  subst h hN
  obtain ⟨ht, hlt⟩ := takeN_only t n X htk
  subst ht
  rw [takeC_enc n X hlt]
  have hl : (enc n).length = 1 + wid n := by rw [enc_length]; omega
  have e1 : ((167 : UInt8) :: (enc n ++ X)).length = 2 + wid n + X.length := by simp [hl]; omega
  have e2 : ∀ k, ((167 : UInt8) :: (enc n ++ X)).drop (2 + wid n + k) = X.drop k := fun k => by
    rw [show 2 + wid n + k = ((enc n).length + k) + 1 by omega, List.drop_succ_cons, List.drop_length_add_append]
  have e3 : ∀ k, ((167 : UInt8) :: (enc n ++ X)).take (2 + wid n + k) = 167 :: (enc n ++ X.take k) := fun k => by
    rw [show 2 + wid n + k = ((enc n).length + k) + 1 by omega, List.take_succ_cons, List.take_length_add_append]
  have e4 : ((167 : UInt8) :: (enc n ++ X.take n)).drop (2 + wid n) = X.take n := by
    rw [show 2 + wid n = (enc n).length + 1 by omega, List.drop_succ_cons, List.drop_left]
  rw [e2, e3, e4, Nat.add_assoc (2 + wid n) n 4, e2, e1]
  by_cases h1 : 100000 < n
  · rw [if_pos h1, if_pos h1]
  · rw [if_neg h1, if_neg h1]
    by_cases h2 : X.length < n + 4
    · rw [if_pos h2, if_pos (by omega)]
    · rw [if_neg h2, if_neg (show ¬ 2 + wid n + X.length < 2 + wid n + (n + 4) by omega)]
set_option maxHeartbeats 400000 in
theorem bytesEqual_any (l m : List UInt8) (v u : Value) (B C : Nat) (w : World) (hr : Rd B w v l) (hs : Rd C w u m) : Calls Try.prog 34 #[v, u] w fun e w' => e = .returned (.bool (decide (l = m))) ∧ w = w' := by
  obtain ⟨A, c, rfl, hc, hm⟩ := hr.shape
  obtain ⟨A2, c2, rfl, hc2, hm2⟩ := hs.shape
  have s1 := run_string_rd 22 9 5 Try.underlying22 Try.underlying5 Try.underlying9 hr
  have s2 := run_string_rd 22 9 5 Try.underlying22 Try.underlying5 Try.underlying9 hs
  generalize l.length = n1 at *
  generalize m.length = n2 at *
  have hd : (l == m) = decide (l = m) := by rw [Bool.eq_iff_iff]; simp
  clear hr hs hc hm hc2 hm2
  go_enter Try.func34, Try.ntmps34
  go_wp2
  go_ret
  exact ⟨rfl, rfl⟩
theorem cutFrame_nil (p : Value) (A : Option Addr) (c : Nat) (B : Nat) (w : World) : Calls Try.prog 22 #[p, .slice A 0 c] w (CutC B (takeC []) w) := by
  go_enter Try.func22, Try.ntmps22
  go_wp2
  go_ret3
  exact ⟨_, _, rfl, Rd.nil _ _, Rd.nil _ _, Below.refl _ _⟩
/-- Four bytes of an array, as a slice. -/
theorem Rd.blk4 {w : World} {g : Nat} {l : List UInt8} {t : TypeId} (h : Blk w g (bys l) t) (hl : l.length ≤ maxLen) : Rd w.heap.size w (.slice (some ⟨g, 0, none⟩) l.length l.length) l := by
  refine ⟨some ⟨g, 0, none⟩, l.length, rfl, Nat.le_refl _, hl, fun h => (by cases h), fun a ha => ?_⟩
  cases ha
  refine ⟨fun _ => h.lt, fun j hj => ?_⟩
  rw [Addr.add_mid, Nat.zero_add, h.cell]
  simp [bys, hj]
set_option maxRecDepth 100000 in
set_option maxHeartbeats 4000000 in
theorem cutFrame_cons (p : Value) (a : Addr) (x : UInt8) (t : List UInt8) (n c : Nat) (B T : Nat) (w : World) (hp : Tab T w p) (hr : Rd B w (.slice (some a) n c) (x :: t)) (hB : B ≤ w.heap.size) (hn : n = t.length + 1) (hc : n ≤ c) (hcm : c ≤ 9223372036854775807) : Calls Try.prog 22 #[p, .slice (some a) n c] w (CutC B (takeC (x :: t)) w) := by
  have HP := Lib.hid hp
  obtain ⟨g, rfl, -⟩ := hp
  have hz : ((n : Int) == 0) = false := by simp; omega
  have hc0 : w.cell? a = some (.int .u8 (x.toNat : Int)) := by
    obtain ⟨A', c', hv, _, _, _, hcell⟩ := hr
    injection hv with h1 h2 h3
    subst h1
    have h := (hcell a rfl).2 0 (by simp)
    simpa [Addr.add] using h
  have HR := Lib.hid hr
  clear hr
  by_cases hx : x = 167
  · subst hx
    go_enter Try.func22, Try.ntmps22
    obtain ⟨m, hm⟩ : ∃ q, min 10 n = q := ⟨_, rfl⟩
    have hmi : min (10 : Int) (n : Int) = (m : Int) := by omega
    have hm1 : 1 ≤ m := by omega
    have hm1i : (1 : Int) ≤ (m : Int) := by omega
    have hmc : m ≤ c := by omega
    have hmci : (m : Int) ≤ (c : Int) := by omega
    have htk : Hid (t.take (m - 1) = t.take 9) := Lib.hid (by
      by_cases h : n ≤ 9
      · rw [List.take_of_length_le (by omega), List.take_of_length_le (by omega)]
      · rw [show m - 1 = 9 by omega])
    have hm64 : (m : Int) ≤ 9223372036854775807 := by omega
    have hdr := HR.out.drop 1 (by omega)
    rw [show ((167 : UInt8) :: t).drop 1 = t from rfl] at hdr
    have hmn : m - 1 ≤ n - 1 := by omega
    have HN := Lib.hid hn
    have hn1 : 1 ≤ n := by omega
    have htl : t.length ≤ n := by omega
    clear hn hm
    by_cases hc1 : c = 1
    · obtain rfl : t = [] := List.eq_nil_of_length_eq_zero (by have := HN.out; omega)
      obtain rfl : m = 1 := by omega
      rw [if_pos hc1] at hdr
      have hdt := hdr.take 0 (by omega)
      rw [show c - 1 = 0 by omega] at hdt
      have HD := Lib.hid hdt
      clear hdr hdt htk htl
      go_wp2_with fail
      refine (take_any _ [] w (HD.out.more hB) (by simp)).mono ?_
      rintro e w1 ⟨v1, rfl, -, hb1⟩
      have HB1 := Lib.hid hb1
      clear hb1
      rw [show takeN [] = (0, [], 2) from rfl]
      go_wp2
      go_ret3
      exact ⟨_, _, rfl, Rd.nil _ _, Rd.nil _ _, HB1.out⟩
    · rw [if_neg hc1] at hdr
      have hdt := Rd.take hdr (m - 1) hmn
      rw [htk.out] at hdt
      have HD := Lib.hid (show Rd B w (.slice (some ⟨a.block, a.off + 1, none⟩) (m - 1) (c - 1)) (t.take 9) by simpa [Addr.add] using hdt)
      have hcut := takeN_lt (t.take 9)
      have htl2 : (t.take 9).length ≤ 9 := by rw [List.length_take]; omega
      clear hdr hdt htk hmn
      go_wp2_with fail
      refine (take_any _ (t.take 9) w (HD.out.more hB) (by omega)).mono ?_
      rintro e w1 ⟨v1, rfl, -, hb1⟩
      have hn9 := takeN_nine t
      obtain ⟨N, rest, er, hT⟩ : ∃ a b c, takeN (t.take 9) = (a, b, c) := ⟨_, _, _, rfl⟩
      rw [hT] at hcut hn9 ⊢
      have HT1 := Lib.hid hn9.1.symm
      have HT2 := Lib.hid hn9.2.symm
      have HB1 := Lib.hid hb1
      have hn2 : (N : Int) ≤ 18446744073709551615 := by have h : N < 18446744073709551616 := hcut; omega
      clear hb1 HD hn9 hT hcut htl2
      dsimp only at HT1 HT2 ⊢
      clear hm1i hmci hm64 hmi
      by_cases he : er = 0
      · subst he
        have HS := Lib.hid (takeC_at t N HT2.out HT1.out)
        by_cases hab : 100000 < N
        · have hab2 : decide ((100000 : Int) < (N : Int)) = true := by simp; omega
          have HS5 := Lib.hid (show takeC (167 :: t) = ([], [], 5) by rw [HS.out, if_pos hab])
          clear HS
          go_wp2
          go_ret3
          rw [HS5.out]
          exact ⟨_, _, rfl, Rd.nil _ _, Rd.nil _ _, HB1.out⟩
        have hab2 : decide ((100000 : Int) < (N : Int)) = false := by simp; omega
        have hN5 : N ≤ 100000 := by omega
        have hw := wid_le N
        obtain ⟨wn, hwn⟩ : ∃ q, wid N = q := ⟨_, rfl⟩
        rw [hwn] at hw HS
        have HWN := Lib.hid hwn
        clear hwn hn2
        go_wp2_with fail
        refine (size_any (N : Int) w1 (by omega) (by omega)).mono ?_
        rintro e w2 ⟨rfl, rfl⟩
        obtain ⟨k1, hk1⟩ : ∃ q, 1 + wn = q := ⟨_, rfl⟩
        obtain ⟨st, hst⟩ : ∃ q, 2 + wn = q := ⟨_, rfl⟩
        obtain ⟨en, hen⟩ : ∃ q, st + N = q := ⟨_, rfl⟩
        obtain ⟨e4, he4⟩ : ∃ q, en + 4 = q := ⟨_, rfl⟩
        rw [show ((N : Int)).toNat = N by omega, HWN.out, show (1 + (wn : Int)) = (k1 : Int) by omega]
        rw [hst, hen, he4] at HS
        have i1 : 1 + (k1 : Int) = (st : Int) := by omega
        have i2 : (st : Int) + (N : Int) = (en : Int) := by omega
        have i3 : (en : Int) + 4 = (e4 : Int) := by omega
        have hstb : st ≤ 10 := by omega
        have hse : st ≤ en := by omega
        have henb : en ≤ 100010 := by omega
        have h4b : e4 ≤ 100014 := by omega
        have hE4 := Lib.hid he4
        have hEN := Lib.hid hen
        clear hk1 hst hen he4 hw HWN
        by_cases hsh : n < e4
        · have hshi : (n : Int) < (e4 : Int) := by omega
          have HS2 := Lib.hid (show takeC (167 :: t) = ([], [], 2) by rw [HS.out, if_neg hab, if_pos (by rw [List.length_cons, ← HN.out]; exact hsh)])
          clear HS
          go_wp2
          go_ret3
          rw [HS2.out]
          exact ⟨_, _, rfl, Rd.nil _ _, Rd.nil _ _, HB1.out⟩
        have hshi : ¬ (n : Int) < (e4 : Int) := by omega
        have hec : en ≤ c := by have := hE4.out; omega
        have heci : (en : Int) ≤ (c : Int) := by omega
        have HS3 := Lib.hid (show takeC (167 :: t) = if sum4 (sumC ((167 :: t).take en)) ≠ ((167 :: t).drop en).take 4 then ([], [], 4) else (((167 :: t).take en).drop st, (167 :: t).drop e4, 0) by
          rw [HS.out, if_neg hab, if_neg (by rw [List.length_cons, ← HN.out]; exact hsh)])
        clear HS
        go_wp2_with fail
        have hsz1 := HB1.out.size
        refine (sumOf_any _ ((167 :: t).take en) _ T B w1 (HP.out.below HB1.out (Nat.le_refl _)) ((HR.out.below (HB1.out.mono hB)).take en (by have := hE4.out; omega))).mono ?_
        rintro e w2 ⟨rfl, rfl⟩
        obtain ⟨s, hs⟩ : ∃ q, sumC ((167 :: t).take en) = q := ⟨_, rfl⟩
        rw [hs] at HS3 ⊢
        clear hs
        go_wp2_with fail
        refine (inBytes_any s w1).mono ?_
        rintro e w2 ⟨rfl, hb2⟩
        have HB2 := Lib.hid hb2
        clear hb2
        go_wp2_with (refine wpList_alloc_blk rfl 52 rfl _ infoF ?_)
        intro w3 hb3 hs3 hbl3
        have HK3 := Lib.hid hb3
        have HS3' := Lib.hid hs3
        have HBL3 := Lib.hid hbl3
        clear hb3 hs3 hbl3
        have hBe3 : Below w.heap.size w w3 := (HB1.out.trans (HB2.out.mono hsz1)).trans (HBL3.out.mono (Nat.le_trans hsz1 HB2.out.size))
        obtain ⟨G, hG⟩ : ∃ q, w2.heap.size = q := ⟨_, rfl⟩
        have hwG : w.heap.size ≤ G := by rw [← hG]; exact Nat.le_trans hsz1 HB2.out.size
        rw [hG] at HK3
        have HW3 := Lib.hid hBe3
        rw [hG]
        clear hG hBe3 HB2 HBL3 HS3'
        go_wp2_with (refine wpList_store_blk rfl 52 _ _ rfl G (bys (sum4 s)) (bys [0, 0, 0, 0]) 52 rfl rfl HK3.out sizeF rfl (bys_one' _) ?_)
        obtain ⟨w4, hw4⟩ : ∃ q, w3.setRow G (bys (sum4 s)).toArray = q := ⟨_, rfl⟩
        have HK4 := Lib.hid (show Blk w4 G (bys (sum4 s)) 52 by rw [← hw4]; exact HK3.out.setRow)
        have HW4 := Lib.hid (show Below w.heap.size w w4 by rw [← hw4]; exact below_setRow' HW3.out hwG _)
        rw [hw4]
        clear hw4 HK3 HW3
        go_wp2
        have hn4 : en + 4 ≤ n := by have := hE4.out; omega
        have h4n : e4 - en = 4 := by have := hE4.out; omega
        have hcN : ¬ c = en := by omega
        have hle : (en : Int) ≤ (e4 : Int) := by omega
        have h4c : (e4 : Int) ≤ (c : Int) := by omega
        have hrd4 : ∀ W, Below w4.heap.size w4 W → Rd B W (.slice (some (a.add en)) 4 (c - en)) (((167 :: t).drop en).take 4) := by
          intro W hW
          have h1 := ((HR.out.below ((HW4.out.trans (hW.mono HW4.out.size)).mono hB)).drop en (by omega))
          rw [if_neg hcN] at h1
          exact h1.take 4 (by omega)
        have H4 := Lib.hid hrd4
        clear hrd4
        have hrdS : ∀ W, Below w4.heap.size w4 W → Rd W.heap.size W (.slice (some ⟨G, 0, none⟩) 4 4) (sum4 s) := by
          intro W hW
          exact Rd.blk4 (HK4.out.below hW HK4.out.lt) (by rw [sum4_len]; unfold maxLen; decide)
        have H5 := Lib.hid hrdS
        clear hrdS
        refine wp_region_rely3 8 0 (fun x => ⟨List.toArray (.pointer (some { block := g, off := 0 }) :: .slice (some a) n c :: undef :: undef :: .slice none 0 0 :: .slice none 0 0 :: .int IntKind.i64 0 :: .int IntKind.u64 ↑N :: v1 :: .int IntKind.i64 0 :: .int IntKind.i64 ↑st :: .int IntKind.i64 ↑en :: .pointer (some { block := G, off := 0 }) :: .slice (some a) n c :: .int IntKind.i64 ↑n :: .bool false :: .slice (some a) n c :: .pointer (some a) :: .int IntKind.u8 167 :: .bool false :: .tuple #[Value.int IntKind.u64 ↑N, v1, Value.int IntKind.i64 0] :: .slice (some a) n c :: .slice (some a) n c :: .int IntKind.i64 ↑n :: .int IntKind.i64 ↑m :: .slice (some { block := a.block, off := a.off + 1 }) (m - 1) (c - 1) :: .tuple #[Value.int IntKind.u64 ↑N, v1, Value.int IntKind.i64 0] :: .int IntKind.u64 ↑N :: v1 :: .int IntKind.i64 0 :: .int IntKind.i64 0 :: .bool false :: undef :: .int IntKind.u64 ↑N :: .bool false :: .int IntKind.u64 ↑N :: .int IntKind.i64 ↑k1 :: .int IntKind.i64 ↑st :: .int IntKind.i64 ↑st :: .int IntKind.u64 ↑N :: .int IntKind.i64 ↑N :: .int IntKind.i64 ↑en :: .slice (some a) n c :: .int IntKind.i64 ↑n :: .int IntKind.i64 ↑en :: .int IntKind.i64 ↑e4 :: .bool false :: .pointer (some { block := g, off := 0 }) :: .slice (some a) n c :: .int IntKind.i64 ↑en :: .slice (some a) en c :: .int IntKind.u32 ↑s :: .agg (bys (sum4 s)).toArray :: x 0 :: x 1 :: x 2 :: x 3 :: x 4 :: x 5 :: x 6 :: x 7 :: undef :: undef :: undef :: undef :: undef :: undef :: undef :: undef :: []), []⟩) (fun jj => ([eqV (.slice (some a) n c), eqV (.int .i64 (en : Int)), eqV (.int .i64 (en : Int)), eqV (.int .i64 (e4 : Int)), eqV (.slice (some (a.add en)) 4 (c - en)), eqV (.slice (some ⟨G, 0, none⟩) 4 4), eqV (.bool (decide (((167 :: t).drop en).take 4 = sum4 s))), eqV (.bool (!decide (((167 :: t).drop en).take 4 = sum4 s)))] : List (Value → World → Prop)).getD jj (fun _ _ => True)) rfl ⟨fun kk => [_, _, _, _, _, _, _, _].getD kk undef, rfl⟩ (by kernel_rfl) (by kernel_rfl) ?steps ?fin
        case steps =>
          refine StepsAt.val 0 (.slice (some a) n c) rfl (fun _ _ => rfl) rfl rfl (fun x wx hb hd => ?_) ?_
          · first | (go_simp; done) | (go_simp; rfl)
          refine StepsAt.val 1 (.int .i64 (en : Int)) rfl (fun _ _ => rfl) rfl rfl (fun x wx hb hd => ?_) ?_
          · first | (go_simp; done) | (go_simp; rfl)
          refine StepsAt.val 2 (.int .i64 (en : Int)) rfl (fun _ _ => rfl) rfl rfl (fun x wx hb hd => ?_) ?_
          · first | (go_simp; done) | (go_simp; rfl)
          refine StepsAt.val 3 (.int .i64 (e4 : Int)) rfl (fun _ _ => rfl) rfl rfl (fun x wx hb hd => ?_) ?_
          · have h2 : x 2 = .int .i64 (en : Int) := hd 2 (by kernel_rfl)
            rw [h2]
            have hw4 : IntKind.i64.wrap (e4 : Int) = (e4 : Int) := by rw [IntKind.wrap_i64]; omega
            first | (go_simp; done) | (go_simp; rfl) | (go_simp; rw [hw4])
          refine StepsAt.val 4 (.slice (some (a.add en)) 4 (c - en)) rfl (fun _ _ => rfl) rfl rfl (fun x wx hb hd => ?_) ?_
          · have h0 : x 0 = .slice (some a) n c := hd 0 (by kernel_rfl)
            have h1 : x 1 = .int .i64 (en : Int) := hd 1 (by kernel_rfl)
            have h3 : x 3 = .int .i64 (e4 : Int) := hd 3 (by kernel_rfl)
            rw [h0, h1, h3]
            first | (go_simp; done) | (go_simp; intro h; exact absurd h hcN)
          refine StepsAt.val 5 (.slice (some ⟨G, 0, none⟩) 4 4) rfl (fun _ _ => rfl) rfl rfl (fun x wx hb hd => ?_) ?_
          · first | (go_simp; done) | (go_simp; rfl)
          refine StepsAt.cons 6 (fun _ _ _ h hb => h) (fun _ _ => rfl) rfl rfl (fun x wx hb hd K hK => ?_) ?_
          · have h4 : Hid (x 4 = .slice (some (a.add en)) 4 (c - en)) := hd 4 (by kernel_rfl)
            have h5 : Hid (x 5 = .slice (some ⟨G, 0, none⟩) 4 4) := hd 5 (by kernel_rfl)
            go_simp
            refine calls_args (args2 := #[.slice (some (a.add en)) 4 (c - en), .slice (some ⟨G, 0, none⟩) 4 4]) (by rw [h4.out, h5.out]) ?_
            refine (bytesEqual_any _ (sum4 s) _ _ B wx.heap.size wx (H4.out wx hb) (H5.out wx hb)).mono ?_
            rintro e w99 ⟨rfl, rfl⟩
            exact hK.out _ _ (Below.refl _ _) rfl
          refine StepsAt.val 7 (.bool (!decide (((167 :: t).drop en).take 4 = sum4 s))) rfl (fun _ _ => rfl) rfl rfl (fun x wx hb hd => ?_) ?_
          · have h6 : x 6 = .bool (decide (((167 :: t).drop en).take 4 = sum4 s)) := hd 6 (by kernel_rfl)
            rw [h6]
            first | (go_simp; done) | (go_simp; rfl)
          exact StepsAt.done
        case fin =>
          intro x wx hb hd
          have hx7 : x 7 = .bool (!decide (((167 :: t).drop en).take 4 = sum4 s)) := hd 7 (by omega)
          have EB := Lib.hid hb
          refine AnyTill.any (S := fun _ => True) (m := 8) _ _ _ _ ?_
          rw [hx7]
          clear hd hb hx7
          refine AnyTill.done (by kernel_rfl) ?_
          refine NoPanic.normal ?_
          try dsimp only
          have EW : Hid (Below w.heap.size w wx) := Lib.hid (HW4.out.trans (EB.out.mono HW4.out.size))
          by_cases hq : ((167 :: t).drop en).take 4 = sum4 s
          · have HS := Lib.hid (show takeC (167 :: t) = (((167 :: t).take en).drop st, (167 :: t).drop e4, 0) by rw [HS3.out, if_neg (fun h => h hq.symm)])
            rw [decide_eq_true hq]
            have h17 := HR.out.below (EW.out.mono hB)
            have d1 := (h17.take en (by omega)).drop st hse
            rw [if_neg (by omega)] at d1
            have D1 := Lib.hid d1
            have d2 := h17.drop e4 (by omega)
            have hcs : ¬ c = st := by omega
            have hsei : (st : Int) ≤ (en : Int) := by omega
            clear hq h17 EB HS3 d1 HW4 HK4 H4 H5
            by_cases hc4 : c = e4
            · subst hc4
              rw [if_pos rfl, Nat.sub_self, show n - c = 0 by omega] at d2
              have D2 := Lib.hid d2
              clear d2
              go_wp2
              refine wp_region_quiet_lit (by kernel_rfl) (by kernel_rfl) ?_
              repeat (first | go_big_quiet_step (fail) | quiet_step (fail))
              refine wpQuiet_nil ?_
              intro _ hw'
              obtain ⟨nq, hw''⟩ := hw'
              subst hw''
              have EN : Hid (Below w.heap.size w (wx.drewN nq)) := Below.drewN' EW.out
              go_wp2
              go_ret3
              rw [HS.out]
              exact ⟨_, _, rfl, D1.out.keep fun _ _ => rfl, D2.out.keep fun _ _ => rfl, EN.out⟩
            · rw [if_neg hc4] at d2
              have D2 := Lib.hid d2
              clear d2
              go_wp2
              refine wp_region_quiet_lit (by kernel_rfl) (by kernel_rfl) ?_
              repeat (first | go_big_quiet_step (fail) | quiet_step (fail))
              refine wpQuiet_nil ?_
              intro _ hw'
              obtain ⟨nq, hw''⟩ := hw'
              subst hw''
              have EN : Hid (Below w.heap.size w (wx.drewN nq)) := Below.drewN' EW.out
              go_wp2
              go_ret3
              rw [HS.out]
              exact ⟨_, _, rfl, D1.out.keep fun _ _ => rfl, D2.out.keep fun _ _ => rfl, EN.out⟩
          · have HS := Lib.hid (show takeC (167 :: t) = ([], [], 4) by rw [HS3.out, if_pos (fun h => hq h.symm)])
            rw [decide_eq_false hq]
            clear hq EB HS3 HW4 HK4 H4 H5
            go_wp2
            go_ret3
            rw [HS.out]
            exact ⟨_, _, rfl, Rd.nil _ _, Rd.nil _ _, EW.out⟩
      · have he1 : ((er : Int) != 0) = true := by simp; omega
        have HS := Lib.hid (show takeC (167 :: t) = ([], [], er) by
          rw [takeC, if_neg (by simp), if_pos (by rw [HT2.out]; exact he), HT2.out])
        go_wp2
        go_ret3
        rw [HS.out]
        exact ⟨_, _, rfl, Rd.nil _ _, Rd.nil _ _, HB1.out⟩
  · have hx2 : ((x.toNat : Int) != 167) = true := by
      have : x.toNat ≠ 167 := fun h => hx (UInt8.toNat_inj.1 (by simpa using h))
      simp; omega
    go_enter Try.func22, Try.ntmps22
    go_wp2
    go_ret3
    rw [takeC, if_pos hx]
    exact ⟨_, _, rfl, Rd.nil _ _, Rd.nil _ _, Below.refl _ _⟩
theorem cutFrame_any (p v : Value) (l : List UInt8) (B T : Nat) (w : World) (hp : Tab T w p) (hr : Rd B w v l) (hB : B ≤ w.heap.size) : Calls Try.prog 22 #[p, v] w (CutC B (takeC l) w) := by
  obtain ⟨A, c, rfl, hc, hm⟩ := hr.shape
  unfold maxLen at hm
  cases l with
  | nil => exact cutFrame_nil p A c B w
  | cons x t =>
    cases A with
    | none =>
      obtain ⟨A', c', hv, h1, _, h3, _⟩ := hr
      injection hv with e1 e2 e3
      subst e1 e3
      have := h3 rfl
      simp only [List.length_cons] at h1
      omega
    | some a => exact cutFrame_cons p a x t (x :: t).length c B T w hp hr hB rfl hc (by omega)
end Go.Proofs.Yteckenlbelgknaa

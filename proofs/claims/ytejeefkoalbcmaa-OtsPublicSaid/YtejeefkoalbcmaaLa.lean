/-
  The law OtsChains, walked: it answers true for every input.
-/
import Derived.Test.YtejeefkoalbcmaaRc
import Derived.Test.YtejeefkoalbcmaaRel3
import Derived.Test.YtejeefkoalbcmaaOd
namespace Go.Proofs.Ytejeefkoalbcmaa
open Go.RowKit

theorem sec_both (I seed : List UInt8) (q : Nat) (z i : Int) (hI : I.length = 16) (hs : seed.length = 32) (hq : q < 4294967296) :
    ∃ (r : List UInt8) (e : Int), r.length = 32 ∧ (∀ w, Calls Try.prog 9 #[.agg (kcs I q seed z).toArray, .int .i64 i] w (TwoD (.agg (bys r).toArray) (.int .i64 e) w)) ∧ (∀ w, Calls Try.prog 10 #[.agg (kcs I q seed z).toArray, .int .i64 i] w (TwoD (.agg (bys r).toArray) (.int .i64 e) w)) := by
  rcases width_or z with ⟨k, hk, rfl⟩ | hz
  · by_cases h0 : i < 0
    · exact ⟨List.replicate 32 0, 1, by simp, fun w => secretX_out I seed q k i w hI hs hk (.inl h0), fun w => refSecret_neg I seed q k i w hI hs h0⟩
    · by_cases h1 : (mny k : Int) ≤ i
      · exact ⟨List.replicate 32 0, 1, by simp, fun w => secretX_out I seed q k i w hI hs hk (.inr h1), fun w => refSecret_out I seed q k i w hI hs hk (by omega) h1⟩
      · obtain ⟨n, rfl⟩ : ∃ n : Nat, i = (n : Int) := ⟨i.toNat, by omega⟩
        exact ⟨hsec (pre20 I q) seed n, 0, hsec_length _ _ _, fun w => secretX_yes I seed q k n w hI hs hq hk (by omega), fun w => refSecret_yes I seed q k n w hI hs hq hk (by omega)⟩
  · refine ⟨List.replicate 32 0, 1, by simp, fun w => secretX_no I seed q z i w hI hs hz, fun w => ?_⟩
    by_cases h0 : i < 0
    · exact refSecret_neg I seed q z i w hI hs h0
    · exact refSecret_no I seed q z i w hI hs hz (by omega)

theorem chain_both (I seed y : List UInt8) (q : Nat) (z i a b : Int) (hI : I.length = 16) (hs : seed.length = 32) (hy : y.length = 32) (hq : q < 4294967296) :
    ∃ (r : List UInt8) (e : Int), r.length = 32 ∧ (∀ w, Calls Try.prog 12 #[.agg (kcs I q seed z).toArray, .int .i64 i, .int .i64 a, .int .i64 b, .agg (bys y).toArray] w (TwoD (.agg (bys r).toArray) (.int .i64 e) w)) ∧ (∀ w, Calls Try.prog 13 #[.agg (kcs I q seed z).toArray, .int .i64 i, .int .i64 a, .int .i64 b, .agg (bys y).toArray] w (TwoD (.agg (bys r).toArray) (.int .i64 e) w)) := by
  rcases width_or z with ⟨k, hk, rfl⟩ | hz
  · by_cases h0 : i < 0
    · exact ⟨List.replicate 32 0, 1, by simp, fun w => chainX_out I seed y q k i a b w hI hs hk (.inl h0), fun w => refChain_neg I seed y q k i a b w hI hs h0⟩
    · by_cases h1 : (mny k : Int) ≤ i
      · exact ⟨List.replicate 32 0, 1, by simp, fun w => chainX_out I seed y q k i a b w hI hs hk (.inr h1), fun w => refChain_out I seed y q k i a b w hI hs hk (by omega) h1⟩
      · obtain ⟨n, rfl⟩ : ∃ n : Nat, i = (n : Int) := ⟨i.toNat, by omega⟩
        have hn : n < mny k := by omega
        by_cases ha : a < 0
        · exact ⟨List.replicate 32 0, 1, by simp, fun w => chainX_neg I seed y q k n a b w hI hs hk hn ha, fun w => refChain_from I seed y q k n a b w hI hs hk hn ha⟩
        · by_cases hab : b < a
          · exact ⟨List.replicate 32 0, 1, by simp, fun w => chainX_rev I seed y q k n a b w hI hs hk hn (by omega) hab, fun w => refChain_rev I seed y q k n a b w hI hs hk hn (by omega) hab⟩
          · by_cases hbl : (gr k : Int) < b
            · exact ⟨List.replicate 32 0, 1, by simp, fun w => chainX_far I seed y q k n a b w hI hs hk hn (by omega) (by omega) hbl, fun w => refChain_far I seed y q k n a b w hI hs hk hn (by omega) (by omega) hbl⟩
            · obtain ⟨m, rfl⟩ : ∃ m : Nat, a = (m : Int) := ⟨a.toNat, by omega⟩
              obtain ⟨d, rfl⟩ : ∃ d : Nat, b = ((m + d : Nat) : Int) := ⟨b.toNat - m, by omega⟩
              exact ⟨chn (pre20 I q) n m d y, 0, chn_length _ _ _ _ _ hy, fun w => chainX_yes I seed y q k n m d w hI hs hy hq hk hn (by omega), fun w => refChain_yes I seed y q k n m d w hI hs hy hq hk hn (by omega)⟩
  · refine ⟨List.replicate 32 0, 1, by simp, fun w => chainX_no I seed y q z i a b w hI hs hz, fun w => ?_⟩
    by_cases h0 : i < 0
    · exact refChain_neg I seed y q z i a b w hI hs h0
    · exact refChain_no I seed y q z i a b w hI hs hz (by omega)

theorem long_both (z : Int) : ∃ n e : Int, (∀ w, Calls Try.prog 14 #[.int .i64 z] w (TwoD (.int .i64 n) (.int .i64 e) w)) ∧ (∀ w, Calls Try.prog 15 #[.int .i64 z] w (Drew (.tuple #[.int .i64 n, .int .i64 e]) w)) := by
  rcases width_or z with ⟨k, hk, rfl⟩ | hz
  · exact ⟨_, _, fun w => longX_yes k w hk, fun w => refLong_yes k w hk⟩
  · exact ⟨_, _, fun w => longX_no z w hz, fun w => refLong_no z w hz⟩
theorem type_both (z : Int) : ∃ n e : Int, (∀ w, Calls Try.prog 16 #[.int .i64 z] w (TwoD (.int .u32 n) (.int .i64 e) w)) ∧ (∀ w, Calls Try.prog 17 #[.int .i64 z] w (Just (.tuple #[.int .u32 n, .int .i64 e]) w)) := by
  rcases width_or z with ⟨k, hk, rfl⟩ | hz
  · exact ⟨_, _, fun w => typeX_yes k w hk, fun w => refType_yes k w hk⟩
  · exact ⟨_, _, fun w => typeX_no z w hz, fun w => refType_no z w hz⟩

def i3 (b0 b1 b2 : Int) : List Value := [.int .i64 b0, .int .i64 b1, .int .i64 b2]

set_option maxRecDepth 100000 in
set_option maxHeartbeats 4000000 in
theorem chains_all (I seed : List UInt8) (q : Nat) (z b0 b1 b2 : Int) (x0 : List UInt8) (w : World) (hI : I.length = 16) (hs : seed.length = 32) (hq : q < 4294967296) (hx : x0.length = 32) :
    Calls Try.prog 3 #[.agg (kcs I q seed z).toArray, .agg (i3 b0 b1 b2).toArray, .agg (bys x0).toArray] w (One (.bool true) w) := by
  obtain ⟨r1, e1, hr1, hS9, hS10⟩ := sec_both I seed q z b0 hI hs hq
  obtain ⟨r2, e2, hr2, hC12, hC13⟩ := chain_both I seed x0 q z b0 b1 b2 hI hs hx hq
  obtain ⟨n3, e3, hL14, hL15⟩ := long_both z
  obtain ⟨n4, e4, hT16, hT17⟩ := type_both z
  have S9 := Lib.hid hS9
  have S10 := Lib.hid hS10
  have C12 := Lib.hid hC12
  have C13 := Lib.hid hC13
  have L14 := Lib.hid hL14
  have L15 := Lib.hid hL15
  have T16 := Lib.hid hT16
  have T17 := Lib.hid hT17
  have HI := Lib.hid hI
  have HS := Lib.hid hs
  have HR1 := Lib.hid hr1
  have HR2 := Lib.hid hr2
  have H26 : Hid ((Try.prog.info? 26).map (·.size) = some (kcs I q seed z).length) := by show _ = _; rw [kcs_length I seed q _ hI hs]; exact s26
  have HX24 : Hid ((Try.prog.info? 24).map (·.size) = some (bys x0).length) := by show _ = _; rw [bys_length, hx]; exact s24
  have H241 : Hid ((Try.prog.info? 24).map (·.size) = some (bys r1).length) := by show _ = _; rw [bys_length, hr1]; exact s24
  have HZ1 : Hid (z32.length = (bys r1).length) := by show _ = _; rw [bys_length, hr1, z32_length]
  have H242 : Hid ((Try.prog.info? 24).map (·.size) = some (bys r2).length) := by show _ = _; rw [bys_length, hr2]; exact s24
  have HZ2 : Hid (z32.length = (bys r2).length) := by show _ = _; rw [bys_length, hr2, z32_length]
  obtain ⟨d26, hu26, hd26⟩ := row26
  have HU := Lib.hid hu26
  have HD := Lib.hid hd26
  clear hI hs hx hu26 hd26 hS9 hS10 hC12 hC13 hL14 hL15 hT16 hT17 hr1 hr2
  go_enter Try.func3, Try.ntmps3
  go_wp2_with (refine wpList_box_blk rfl 26 _ rfl (kcs I q seed z) rfl ?_)
  intro v1 a1 a2 a3
  have A1 := Lib.hid a1
  have A2 := Lib.hid a2
  have A3 := Lib.hid a3
  clear a1 a2 a3
  go_wp2_with (refine wpList_box_blk rfl 27 _ rfl (i3 b0 b1 b2) rfl ?_)
  intro v2 a1 a2 a3
  rw [A2.out] at a1 a2 a3 ⊢
  have P1 : Hid (Blk v2 w.heap.size (kcs I q seed z) 26) := A1.out.below a3 (by omega)
  have P2 : Hid (Blk v2 (w.heap.size + 1) (i3 b0 b1 b2) 27) := a1
  have PB : Hid (Below w.heap.size w v2) := A3.out.trans (a3.mono (by omega))
  have PS := Lib.hid a2
  clear a1 a2 a3 A1 A2 A3
  go_wp2_with (refine wpList_box_blk rfl 24 _ rfl (bys x0) rfl ?_)
  intro v3 a1 a2 a3
  rw [PS.out] at a1 a2 a3 ⊢
  obtain ⟨g0, hg0⟩ : ∃ g, w.heap.size = g := ⟨_, rfl⟩
  obtain ⟨g1, hg1⟩ : ∃ g, g0 + 1 = g := ⟨_, rfl⟩
  obtain ⟨g2, hg2⟩ : ∃ g, g1 + 1 = g := ⟨_, rfl⟩
  have Gk : Hid (Blk v3 g0 (kcs I q seed z) 26) := by rw [← hg0]; exact P1.out.below a3 (by omega)
  have Gi : Hid (Blk v3 g1 (i3 b0 b1 b2) 27) := by rw [← hg1, ← hg0]; exact P2.out.below a3 (by omega)
  have Gx : Hid (Blk v3 g2 (bys x0) 24) := by rw [← hg2, ← hg1, ← hg0]; exact a1
  have GB : Hid (Below w.heap.size w v3) := PB.out.trans (a3.mono (by omega))
  have hwg : w.heap.size ≤ g0 := by omega
  rw [hg0, hg1, hg2]
  clear a1 a2 a3 P1 P2 PB PS hg0 hg1 hg2
  go_wp2
  refine wp_region_rely2 9 0 (fun x => ⟨#[Value.agg (kcs I q seed z).toArray, Value.agg (i3 b0 b1 b2).toArray, Value.agg (bys x0).toArray, Value.pointer (some { block := g0, off := 0 }), Value.pointer (some { block := g1, off := 0 }), Value.pointer (some { block := g2, off := 0 }), Value.bool false, x 6, x 7, x 8, undef, undef, undef, undef, undef, undef, undef, undef, undef, undef, undef, undef, undef, undef, undef, undef, x 0, x 1, x 2, x 3, x 4, x 5, undef, undef, undef, undef, undef, undef, undef, undef, undef, undef, undef, undef, undef, undef, undef, undef, undef, undef, undef, undef, undef, undef, undef, undef, undef, undef, undef, undef, undef, undef, undef, undef, undef, undef, undef, undef, undef, undef, undef, undef, undef, undef, undef, undef, undef, undef, undef, undef, undef, undef, undef, undef, undef, undef, undef, undef, undef, undef, undef, undef, undef, undef, undef, undef, undef, undef, undef, undef, undef, undef, undef, undef, undef, undef, undef, undef, undef, undef, undef, undef, undef, undef, undef, undef, undef, undef, undef, undef, undef, undef, undef, undef, undef, undef, undef, undef, undef], []⟩) (fun jj => ([eqV (.pointer (some ⟨g1, 0, none⟩)), eqV (.int .i64 b0), eqV (.pointer (some ⟨g1, 1, none⟩)), eqV (.int .i64 b1), eqV (.pointer (some ⟨g1, 2, none⟩)), eqV (.int .i64 b2), eqV (.int .i64 b0), eqV (.int .i64 b1), eqV (.int .i64 b2)] : List (Value → World → Prop)).getD jj (fun _ _ => True)) rfl ⟨fun kk => [_, _, _, _, _, _, _, _, _].getD kk undef, rfl⟩ (by kernel_rfl) (by kernel_rfl) ?steps ?fin
  case steps =>
    refine StepsAt.val 0 (.pointer (some ⟨g1, 0, none⟩)) rfl (fun _ _ => rfl) rfl rfl (fun x w1 hb hd => ?_) ?_
    · first | (go_simp; done) | (go_simp; rfl)
    refine StepsAt.val 1 (.int .i64 b0) rfl (fun _ _ => rfl) rfl rfl (fun x w1 hb hd => ?_) ?_
    · have h0 : x 0 = .pointer (some ⟨g1, 0, none⟩) := hd 0 (by kernel_rfl)
      have c := (Gi.out.below hb Gi.out.lt).cell 0
      have c' : w1.cell? ⟨g1, 0, none⟩ = some (.int .i64 b0) := c
      rw [h0]
      first | (go_simp; done) | (go_simp; rfl)
    refine StepsAt.val 2 (.pointer (some ⟨g1, 1, none⟩)) rfl (fun _ _ => rfl) rfl rfl (fun x w1 hb hd => ?_) ?_
    · first | (go_simp; done) | (go_simp; rfl)
    refine StepsAt.val 3 (.int .i64 b1) rfl (fun _ _ => rfl) rfl rfl (fun x w1 hb hd => ?_) ?_
    · have h2 : x 2 = .pointer (some ⟨g1, 1, none⟩) := hd 2 (by kernel_rfl)
      have c := (Gi.out.below hb Gi.out.lt).cell 1
      have c' : w1.cell? ⟨g1, 1, none⟩ = some (.int .i64 b1) := c
      rw [h2]
      first | (go_simp; done) | (go_simp; rfl)
    refine StepsAt.val 4 (.pointer (some ⟨g1, 2, none⟩)) rfl (fun _ _ => rfl) rfl rfl (fun x w1 hb hd => ?_) ?_
    · first | (go_simp; done) | (go_simp; rfl)
    refine StepsAt.val 5 (.int .i64 b2) rfl (fun _ _ => rfl) rfl rfl (fun x w1 hb hd => ?_) ?_
    · have h4 : x 4 = .pointer (some ⟨g1, 2, none⟩) := hd 4 (by kernel_rfl)
      have c := (Gi.out.below hb Gi.out.lt).cell 2
      have c' : w1.cell? ⟨g1, 2, none⟩ = some (.int .i64 b2) := c
      rw [h4]
      first | (go_simp; done) | (go_simp; rfl)
    refine StepsAt.val 6 (.int .i64 b0) rfl (fun _ _ => rfl) rfl rfl (fun x w1 hb hd => ?_) ?_
    · have h1 : x 1 = .int .i64 b0 := hd 1 (by kernel_rfl)
      rw [h1]
      first | (go_simp; done) | (go_simp; rfl)
    refine StepsAt.val 7 (.int .i64 b1) rfl (fun _ _ => rfl) rfl rfl (fun x w1 hb hd => ?_) ?_
    · have h3 : x 3 = .int .i64 b1 := hd 3 (by kernel_rfl)
      rw [h3]
      first | (go_simp; done) | (go_simp; rfl)
    refine StepsAt.val 8 (.int .i64 b2) rfl (fun _ _ => rfl) rfl rfl (fun x w1 hb hd => ?_) ?_
    · have h5 : x 5 = .int .i64 b2 := hd 5 (by kernel_rfl)
      rw [h5]
      first | (go_simp; done) | (go_simp; rfl)
    exact StepsAt.done
  case fin =>
    intro x w1 hb hd
    have f6 : x 6 = .int .i64 b0 := hd 6 (by omega)
    have f7 : x 7 = .int .i64 b1 := hd 7 (by omega)
    have f8 : x 8 = .int .i64 b2 := hd 8 (by omega)
    refine AnyTill.any (S := fun _ => True) (m := 9) _ _ _ _ ?_
    refine AnyTill.done (by kernel_rfl) ?_
    refine NoPanic.normal ?_
    rw [f6, f7, f8]
    generalize x 0 = y0
    generalize x 1 = y1
    generalize x 2 = y2
    generalize x 3 = y3
    generalize x 4 = y4
    generalize x 5 = y5
    have Bk : Hid (Blk w1 g0 (kcs I q seed z) 26) := Gk.out.below hb Gk.out.lt
    have Bx : Hid (Blk w1 g2 (bys x0) 24) := Gx.out.below hb Gx.out.lt
    have BB : Hid (Below w.heap.size w w1) := GB.out.trans (hb.mono GB.out.size)
    clear hd f6 f7 f8 hb Gk Gi Gx GB x
    go_wp2_with (refine wpList_load_blkU rfl 26 _ rfl g0 rfl (kcs I q seed z) 26 Bk.out d26 HU.out HD.out H26.out ?_)
    refine (S9.out _).mono ?_
    rintro e u1 ⟨rfl, hb⟩
    have Ck : Hid (Blk u1 g0 (kcs I q seed z) 26) := Bk.out.below hb Bk.out.lt
    have Cx : Hid (Blk u1 g2 (bys x0) 24) := Bx.out.below hb Bx.out.lt
    have CB : Hid (Below w.heap.size w u1) := BB.out.trans (hb.mono BB.out.size)
    clear hb Bk Bx BB
    go_wp2_with (refine wpList_alloc_blk rfl 24 rfl _ z24 ?_)
    intro va a1 a2 a3
    obtain ⟨h10, hh⟩ : ∃ g, u1.heap.size = g := ⟨_, rfl⟩
    rw [hh] at a1 a2 a3 ⊢
    have AA := Lib.hid a1
    obtain ⟨t1, ht⟩ : ∃ t, va.setRow h10 (bys r1).toArray = t := ⟨_, rfl⟩
    have hb1 : Below h10 u1 t1 := by rw [← ht]; exact below_setRow' a3 (Nat.le_refl _) _
    have Dk : Hid (Blk t1 g0 (kcs I q seed z) 26) := by have := Ck.out.lt; exact Ck.out.below hb1 (by omega)
    have Dx : Hid (Blk t1 g2 (bys x0) 24) := by have := Cx.out.lt; exact Cx.out.below hb1 (by omega)
    have D10 : Hid (Blk t1 h10 (bys r1) 24) := by rw [← ht]; exact a1.setRow
    have DB : Hid (Below w.heap.size w t1) := by have := CB.out.size; exact CB.out.trans (hb1.mono (by omega))
    clear a1 a2 a3 hh Ck Cx CB hb1
    go_wp2_with (first | (refine wpList_store_blk rfl 24 _ _ rfl h10 (bys r1) z32 24 rfl rfl AA.out H241.out HZ1.out (bys_one' _) ?_; rw [ht]) | (refine wpList_load_blkU rfl 26 _ rfl g0 rfl (kcs I q seed z) 26 Dk.out d26 HU.out HD.out H26.out ?_))
    clear AA ht
    refine (plain_any I seed q z _ HI.out HS.out).mono ?_
    rintro e u2 ⟨rfl, hb⟩
    have Ek : Hid (Blk u2 g0 (kcs I q seed z) 26) := Dk.out.below hb Dk.out.lt
    have Ex : Hid (Blk u2 g2 (bys x0) 24) := Dx.out.below hb Dx.out.lt
    have E10 : Hid (Blk u2 h10 (bys r1) 24) := D10.out.below hb D10.out.lt
    have EB : Hid (Below w.heap.size w u2) := DB.out.trans (hb.mono DB.out.size)
    clear hb Dk Dx D10 DB
    go_wp2_with fail
    refine (S10.out _).mono ?_
    rintro e u3 ⟨rfl, hb⟩
    have Fk : Hid (Blk u3 g0 (kcs I q seed z) 26) := Ek.out.below hb Ek.out.lt
    have Fx : Hid (Blk u3 g2 (bys x0) 24) := Ex.out.below hb Ex.out.lt
    have F10 : Hid (Blk u3 h10 (bys r1) 24) := E10.out.below hb E10.out.lt
    have FB : Hid (Below w.heap.size w u3) := EB.out.trans (hb.mono EB.out.size)
    clear hb Ek Ex E10 EB
    go_wp2_with (refine wpList_alloc_blk rfl 24 rfl _ z24 ?_)
    intro va a1 a2 a3
    obtain ⟨h12, hh⟩ : ∃ g, u3.heap.size = g := ⟨_, rfl⟩
    rw [hh] at a1 a2 a3 ⊢
    have AA := Lib.hid a1
    obtain ⟨t3, ht⟩ : ∃ t, va.setRow h12 (bys r1).toArray = t := ⟨_, rfl⟩
    have hb1 : Below h12 u3 t3 := by rw [← ht]; exact below_setRow' a3 (Nat.le_refl _) _
    have Jk : Hid (Blk t3 g0 (kcs I q seed z) 26) := by have := Fk.out.lt; exact Fk.out.below hb1 (by omega)
    have Jx : Hid (Blk t3 g2 (bys x0) 24) := by have := Fx.out.lt; exact Fx.out.below hb1 (by omega)
    have J10 : Hid (Blk t3 h10 (bys r1) 24) := by have := F10.out.lt; exact F10.out.below hb1 (by omega)
    have J12 : Hid (Blk t3 h12 (bys r1) 24) := by rw [← ht]; exact a1.setRow
    have JB : Hid (Below w.heap.size w t3) := by have := FB.out.size; exact FB.out.trans (hb1.mono (by omega))
    clear a1 a2 a3 hh Fk Fx F10 FB hb1
    go_wp2_with (first | (refine wpList_store_blk rfl 24 _ _ rfl h12 (bys r1) z32 24 rfl rfl AA.out H241.out HZ1.out (bys_one' _) ?_; rw [ht]) | (refine wpList_load_blkU rfl 26 _ rfl g0 rfl (kcs I q seed z) 26 Jk.out d26 HU.out HD.out H26.out ?_) | (refine wpList_load_blk rfl 24 _ rfl g2 rfl (bys x0) 24 Jx.out 32 5 tu24 HX24.out ?_))
    clear AA ht
    refine (C12.out _).mono ?_
    rintro e u4 ⟨rfl, hb⟩
    have Kk : Hid (Blk u4 g0 (kcs I q seed z) 26) := Jk.out.below hb Jk.out.lt
    have Kx : Hid (Blk u4 g2 (bys x0) 24) := Jx.out.below hb Jx.out.lt
    have K10 : Hid (Blk u4 h10 (bys r1) 24) := J10.out.below hb J10.out.lt
    have K12 : Hid (Blk u4 h12 (bys r1) 24) := J12.out.below hb J12.out.lt
    have KB : Hid (Below w.heap.size w u4) := JB.out.trans (hb.mono JB.out.size)
    clear hb Jk Jx J10 J12 JB
    go_wp2_with (refine wpList_alloc_blk rfl 24 rfl _ z24 ?_)
    intro va a1 a2 a3
    obtain ⟨h14, hh⟩ : ∃ g, u4.heap.size = g := ⟨_, rfl⟩
    rw [hh] at a1 a2 a3 ⊢
    have AA := Lib.hid a1
    obtain ⟨t4, ht⟩ : ∃ t, va.setRow h14 (bys r2).toArray = t := ⟨_, rfl⟩
    have hb1 : Below h14 u4 t4 := by rw [← ht]; exact below_setRow' a3 (Nat.le_refl _) _
    have Mk : Hid (Blk t4 g0 (kcs I q seed z) 26) := by have := Kk.out.lt; exact Kk.out.below hb1 (by omega)
    have Mx : Hid (Blk t4 g2 (bys x0) 24) := by have := Kx.out.lt; exact Kx.out.below hb1 (by omega)
    have M10 : Hid (Blk t4 h10 (bys r1) 24) := by have := K10.out.lt; exact K10.out.below hb1 (by omega)
    have M12 : Hid (Blk t4 h12 (bys r1) 24) := by have := K12.out.lt; exact K12.out.below hb1 (by omega)
    have M14 : Hid (Blk t4 h14 (bys r2) 24) := by rw [← ht]; exact a1.setRow
    have MB : Hid (Below w.heap.size w t4) := by have := KB.out.size; exact KB.out.trans (hb1.mono (by omega))
    clear a1 a2 a3 hh Kk Kx K10 K12 KB hb1
    go_wp2_with (first | (refine wpList_store_blk rfl 24 _ _ rfl h14 (bys r2) z32 24 rfl rfl AA.out H242.out HZ2.out (bys_one' _) ?_; rw [ht]))
    clear AA ht
    refine wp_region_relyG 13 0 (LayG z32 24 t4.heap.size (bys r2)) (fun x => ⟨#[Value.agg (kcs I q seed z).toArray, Value.agg (i3 b0 b1 b2).toArray, Value.agg (bys x0).toArray, Value.pointer (some { block := g0, off := 0 }), Value.pointer (some { block := g1, off := 0 }), Value.pointer (some { block := g2, off := 0 }), Value.bool false, Value.int IntKind.i64 b0, Value.int IntKind.i64 b1, Value.int IntKind.i64 b2, Value.pointer (some { block := h10, off := 0 }), Value.int IntKind.i64 e1, Value.pointer (some { block := h12, off := 0 }), Value.int IntKind.i64 e1, Value.pointer (some { block := h14, off := 0 }), Value.int IntKind.i64 e2, x 10, x 12, undef, undef, undef, undef, undef, undef, undef, undef, y0, y1, y2, y3, y4, y5, Value.tuple #[Value.agg (bys r1).toArray, Value.int IntKind.i64 e1], Value.agg (kcs I q seed z).toArray, Value.int IntKind.i64 b0, Value.tuple #[Value.agg (bys r1).toArray, Value.int IntKind.i64 e1], Value.agg (bys r1).toArray, Value.int IntKind.i64 e1, Value.tuple #[Value.agg (bys r1).toArray, Value.int IntKind.i64 e1], Value.agg (kcs I q seed z).toArray, Value.agg (kcs I q seed z).toArray, Value.int IntKind.i64 b0, Value.tuple #[Value.agg (bys r1).toArray, Value.int IntKind.i64 e1], Value.agg (bys r1).toArray, Value.int IntKind.i64 e1, Value.tuple #[Value.agg (bys r2).toArray, Value.int IntKind.i64 e2], Value.agg (kcs I q seed z).toArray, Value.int IntKind.i64 b0, Value.int IntKind.i64 b1, Value.int IntKind.i64 b2, Value.agg (bys x0).toArray, Value.tuple #[Value.agg (bys r2).toArray, Value.int IntKind.i64 e2], Value.agg (bys r2).toArray, Value.int IntKind.i64 e2, x 7, x 0, x 1, x 2, x 3, x 4, x 5, x 6, x 8, x 9, undef, undef, undef, undef, undef, undef, undef, undef, undef, undef, undef, undef, undef, undef, undef, undef, undef, undef, undef, undef, undef, undef, undef, undef, undef, undef, undef, undef, undef, undef, undef, undef, undef, undef, undef, undef, undef, undef, undef, undef, undef, undef, undef, undef, undef, undef, undef, undef, undef, undef, undef, undef, undef, undef, undef, undef, undef, undef, undef, undef, undef, undef, undef, undef, undef], []⟩) (fun jj => ([(fun x w => eqV (.agg (kcs I q seed z).toArray) (x 0) w), (fun x w => (eqV (.agg (kcs I q seed z).toArray)) (x 1) w), (fun x w => eqV (.int .i64 b0) (x 2) w), (fun x w => eqV (.int .i64 b1) (x 3) w), (fun x w => eqV (.int .i64 b2) (x 4) w), (fun x w => eqV (.agg (bys x0).toArray) (x 5) w), (fun x w => (eqV (.tuple #[.agg (bys r2).toArray, .int .i64 e2])) (x 6) w), (fun x w => eqV (.tuple #[.agg (bys r2).toArray, .int .i64 e2]) (x 7) w), (fun x w => eqV (.agg (bys r2).toArray) (x 8) w), (fun x w => eqV (.int .i64 e2) (x 9) w), (fun x w => (NewG z32 24 t4.heap.size (bys r2)) (x 10) w), (fun x w => ∃ g, x 10 = .pointer (some ⟨g, 0, none⟩) ∧ t4.heap.size ≤ g ∧ Blk w g (bys r2) 24), (fun x w => eqV (.int .i64 e2) (x 12) w)] : List ((Nat → Value) → World → Prop)).getD jj (fun _ _ => True)) rfl ⟨fun kk => [_, _, _, _, _, _, _, _, _, _, _, undef, _].getD kk undef, rfl⟩ (LayG.drew _ _ _ _ _) (fun _ _ _ h k => h.trans k) (by kernel_rfl) (by kernel_rfl) ?steps ?fin
    case steps =>
      refine StepsG.val 0 (.agg (kcs I q seed z).toArray) (fun w => LayG.refl _ _ _ _ w) rfl (fun _ _ => rfl) rfl rfl (fun x w9 hb hd => ?_) ?_
      · exact run_load_blkU 26 (.tmp 3) rfl g0 rfl (kcs I q seed z) 26 (Mk.out.below hb.below Mk.out.lt) d26 HU.out HD.out H26.out
      refine StepsG.cons 1 (eqV (.agg (kcs I q seed z).toArray)) rfl (fun _ _ _ h hb => h) (fun _ _ => rfl) rfl rfl (fun x w9 hb hd K hK => ?_) ?_
      · have h0 : Hid (x 0 = .agg (kcs I q seed z).toArray) := hd 0 (by kernel_rfl)
        go_simp
        refine calls_args (args2 := #[.agg (kcs I q seed z).toArray]) (by rw [h0.out]) ?_
        refine (plain_any I seed q z _ HI.out HS.out).mono ?_
        rintro e w2 ⟨rfl, hb2⟩
        exact hK.out _ _ (LayG.grow hb2 hb.below.size) rfl
      refine StepsG.val 2 (.int .i64 b0) (fun w => LayG.refl _ _ _ _ w) rfl (fun _ _ => rfl) rfl rfl (fun x w9 hb hd => ?_) ?_
      · first | (go_simp; done) | (go_simp; rfl)
      refine StepsG.val 3 (.int .i64 b1) (fun w => LayG.refl _ _ _ _ w) rfl (fun _ _ => rfl) rfl rfl (fun x w9 hb hd => ?_) ?_
      · first | (go_simp; done) | (go_simp; rfl)
      refine StepsG.val 4 (.int .i64 b2) (fun w => LayG.refl _ _ _ _ w) rfl (fun _ _ => rfl) rfl rfl (fun x w9 hb hd => ?_) ?_
      · first | (go_simp; done) | (go_simp; rfl)
      refine StepsG.val 5 (.agg (bys x0).toArray) (fun w => LayG.refl _ _ _ _ w) rfl (fun _ _ => rfl) rfl rfl (fun x w9 hb hd => ?_) ?_
      · exact run_load_blk 24 (.tmp 5) rfl g2 rfl (bys x0) 24 (Mx.out.below hb.below Mx.out.lt) 32 5 tu24 HX24.out
      refine StepsG.cons 6 (eqV (.tuple #[.agg (bys r2).toArray, .int .i64 e2])) rfl (fun _ _ _ h hb => h) (fun _ _ => rfl) rfl rfl (fun x w9 hb hd K hK => ?_) ?_
      · have h1 : Hid (x 1 = .agg (kcs I q seed z).toArray) := hd 1 (by kernel_rfl)
        have h2 : Hid (x 2 = .int .i64 b0) := hd 2 (by kernel_rfl)
        have h3 : Hid (x 3 = .int .i64 b1) := hd 3 (by kernel_rfl)
        have h4 : Hid (x 4 = .int .i64 b2) := hd 4 (by kernel_rfl)
        have h5 : Hid (x 5 = .agg (bys x0).toArray) := hd 5 (by kernel_rfl)
        go_simp
        refine calls_args (args2 := #[.agg (kcs I q seed z).toArray, .int .i64 b0, .int .i64 b1, .int .i64 b2, .agg (bys x0).toArray]) (by rw [h1.out, h2.out, h3.out, h4.out, h5.out]) ?_
        refine (C13.out _).mono ?_
        rintro e w2 ⟨rfl, hb2⟩
        exact hK.out _ _ (LayG.grow hb2 hb.below.size) rfl
      refine StepsG.val 7 (.tuple #[.agg (bys r2).toArray, .int .i64 e2]) (fun w => LayG.refl _ _ _ _ w) rfl (fun _ _ => rfl) rfl rfl (fun x w9 hb hd => ?_) ?_
      · have h6 : x 6 = .tuple #[.agg (bys r2).toArray, .int .i64 e2] := hd 6 (by kernel_rfl)
        rw [h6]
        first | (go_simp; done) | (go_simp; rfl)
      refine StepsG.val 8 (.agg (bys r2).toArray) (fun w => LayG.refl _ _ _ _ w) rfl (fun _ _ => rfl) rfl rfl (fun x w9 hb hd => ?_) ?_
      · have h7 : x 7 = .tuple #[.agg (bys r2).toArray, .int .i64 e2] := hd 7 (by kernel_rfl)
        rw [h7]
        first | (go_simp; done) | (go_simp; rfl)
      refine StepsG.val 9 (.int .i64 e2) (fun w => LayG.refl _ _ _ _ w) rfl (fun _ _ => rfl) rfl rfl (fun x w9 hb hd => ?_) ?_
      · have h7 : x 7 = .tuple #[.agg (bys r2).toArray, .int .i64 e2] := hd 7 (by kernel_rfl)
        rw [h7]
        first | (go_simp; done) | (go_simp; rfl)
      refine StepsG.cons 10 (NewG z32 24 t4.heap.size (bys r2)) rfl (fun _ _ _ h hb => NewG.keep h hb) (fun _ _ => rfl) rfl rfl (fun x w9 hb hd K hK => ?_) ?_
      · refine wp_of_list rfl (wpList_alloc_blk rfl 24 rfl _ z24 ?_)
        intro w2 c1 c2 c3
        exact hK.out _ _ (LayG.grow c3 hb.below.size) ⟨_, rfl, hb.below.size, .inl c1⟩
      refine StepsG.consX 11 (fun x i v w w' hi hdp h hb => by obtain ⟨g, h1, h2, h3⟩ := h; exact ⟨g, by rw [upd_ne _ _ _ _ (fun e => hdp (by rw [← e]; decide))]; exact h1, h2, hb.done g h3⟩) (fun _ _ => rfl) rfl rfl (fun x w9 hb hd K hK => ?_) ?_
      · have h8 : Hid (x 8 = .agg (bys r2).toArray) := hd 8 (by kernel_rfl)
        have h10 : NewG z32 24 t4.heap.size (bys r2) (x 10) w9 := hd 10 (by kernel_rfl)
        obtain ⟨g, e10, hgb, hor⟩ := h10
        rcases hor with hz | hz
        · refine wp_store_blk 24 (.tmp 16) (.tmp 62) rfl g (bys r2) z32 24 e10 h8.out hz H242.out HZ2.out (bys_one' _) ?_
          exact hK.out undef _ (LayG.lay hgb (.inl hz)) ⟨g, by rw [upd_ne _ _ _ _ (by omega)]; exact e10, hgb, hz.setRow⟩
        · refine wp_store_blk 24 (.tmp 16) (.tmp 62) rfl g (bys r2) (bys r2) 24 e10 h8.out hz H242.out rfl (bys_one' _) ?_
          exact hK.out undef _ (LayG.lay hgb (.inr hz)) ⟨g, by rw [upd_ne _ _ _ _ (by omega)]; exact e10, hgb, hz.setRow⟩
      refine StepsG.val 12 (.int .i64 e2) (fun w => LayG.refl _ _ _ _ w) rfl (fun _ _ => rfl) rfl rfl (fun x w9 hb hd => ?_) ?_
      · have h9 : x 9 = .int .i64 e2 := hd 9 (by kernel_rfl)
        rw [h9]
        first | (go_simp; done) | (go_simp; rfl)
      exact StepsG.done
    case fin =>
      intro x w9 hb hd
      have f12 : x 12 = .int .i64 e2 := hd 12 (by omega)
      obtain ⟨h16, e10, hgb, hz⟩ : ∃ g, x 10 = .pointer (some ⟨g, 0, none⟩) ∧ t4.heap.size ≤ g ∧ Blk w9 g (bys r2) 24 := hd 11 (by omega)
      refine AnyTill.any (S := fun _ => True) (m := 13) _ _ _ _ ?_
      refine AnyTill.done (by kernel_rfl) ?_
      refine NoPanic.normal ?_
      rw [f12, e10]
      generalize x 0 = p0
      generalize x 1 = p1
      generalize x 2 = p2
      generalize x 3 = p3
      generalize x 4 = p4
      generalize x 5 = p5
      generalize x 6 = p6
      generalize x 7 = p7
      generalize x 8 = p8
      generalize x 9 = p9
      have Nk : Hid (Blk w9 g0 (kcs I q seed z) 26) := Mk.out.below hb.below Mk.out.lt
      have N10 : Hid (Blk w9 h10 (bys r1) 24) := M10.out.below hb.below M10.out.lt
      have N12 : Hid (Blk w9 h12 (bys r1) 24) := M12.out.below hb.below M12.out.lt
      have N14 : Hid (Blk w9 h14 (bys r2) 24) := M14.out.below hb.below M14.out.lt
      have N16 : Hid (Blk w9 h16 (bys r2) 24) := hz
      have NB : Hid (Below w.heap.size w w9) := MB.out.trans (hb.below.mono MB.out.size)
      have cw := (Nk.out.cell 49).trans (kcs_z I seed q z HI.out HS.out)
      clear hd f12 e10 hgb hz hb Mk Mx M10 M12 M14 MB x
      go_wp2_with fail
      clear cw
      refine (L14.out _).mono ?_
      rintro e u6 ⟨rfl, hb⟩
      have Ok : Hid (Blk u6 g0 (kcs I q seed z) 26) := Nk.out.below hb Nk.out.lt
      have O10 : Hid (Blk u6 h10 (bys r1) 24) := N10.out.below hb N10.out.lt
      have O12 : Hid (Blk u6 h12 (bys r1) 24) := N12.out.below hb N12.out.lt
      have O14 : Hid (Blk u6 h14 (bys r2) 24) := N14.out.below hb N14.out.lt
      have O16 : Hid (Blk u6 h16 (bys r2) 24) := N16.out.below hb N16.out.lt
      have OB : Hid (Below w.heap.size w u6) := NB.out.trans (hb.mono NB.out.size)
      have cw := (Ok.out.cell 49).trans (kcs_z I seed q z HI.out HS.out)
      clear hb Nk N10 N12 N14 N16 NB
      go_wp2_with fail
      clear cw
      refine (L15.out _).mono ?_
      rintro e u7 ⟨rfl, nd, rfl⟩
      have Qk : Hid (Blk (u6.drewN nd) g0 (kcs I q seed z) 26) := Ok.out
      have Q10 : Hid (Blk (u6.drewN nd) h10 (bys r1) 24) := O10.out
      have Q12 : Hid (Blk (u6.drewN nd) h12 (bys r1) 24) := O12.out
      have Q14 : Hid (Blk (u6.drewN nd) h14 (bys r2) 24) := O14.out
      have Q16 : Hid (Blk (u6.drewN nd) h16 (bys r2) 24) := O16.out
      have QB : Hid (Below w.heap.size w (u6.drewN nd)) := Below.drewN' OB.out
      generalize u6.drewN nd = u7 at Qk Q10 Q12 Q14 Q16 QB ⊢
      have cw := (Qk.out.cell 49).trans (kcs_z I seed q z HI.out HS.out)
      clear Ok O10 O12 O14 O16 OB
      go_wp2_with fail
      clear cw
      refine (T16.out _).mono ?_
      rintro e u8 ⟨rfl, hb⟩
      have Rk : Hid (Blk u8 g0 (kcs I q seed z) 26) := Qk.out.below hb Qk.out.lt
      have R10 : Hid (Blk u8 h10 (bys r1) 24) := Q10.out.below hb Q10.out.lt
      have R12 : Hid (Blk u8 h12 (bys r1) 24) := Q12.out.below hb Q12.out.lt
      have R14 : Hid (Blk u8 h14 (bys r2) 24) := Q14.out.below hb Q14.out.lt
      have R16 : Hid (Blk u8 h16 (bys r2) 24) := Q16.out.below hb Q16.out.lt
      have RB : Hid (Below w.heap.size w u8) := QB.out.trans (hb.mono QB.out.size)
      have cw := (Rk.out.cell 49).trans (kcs_z I seed q z HI.out HS.out)
      clear hb Qk Q10 Q12 Q14 Q16 QB
      go_wp2_with fail
      clear cw
      refine (T17.out _).mono ?_
      rintro e u9 ⟨rfl, rfl⟩
      go_wp2_with fail
      refine (alive_any _).mono ?_
      rintro e u10 ⟨rfl, hb⟩
      have V10 : Hid (Blk u10 h10 (bys r1) 24) := R10.out.below hb R10.out.lt
      have V12 : Hid (Blk u10 h12 (bys r1) 24) := R12.out.below hb R12.out.lt
      have V14 : Hid (Blk u10 h14 (bys r2) 24) := R14.out.below hb R14.out.lt
      have V16 : Hid (Blk u10 h16 (bys r2) 24) := R16.out.below hb R16.out.lt
      have VB : Hid (Below w.heap.size w u10) := RB.out.trans (hb.mono RB.out.size)
      clear hb Rk R10 R12 R14 R16 RB
      have heq1 := eq24 r1 HR1.out u10
      have heq2 := eq24 r2 HR2.out u10
      go_wp2_with (first | (refine wpList_load_blkG 24 _ rfl h10 rfl (bys r1) 24 V10.out 32 5 tu24 H241.out (by rfl) ?_) | (refine wpList_load_blkG 24 _ rfl h12 rfl (bys r1) 24 V12.out 32 5 tu24 H241.out (by rfl) ?_) | (refine wpList_load_blkG 24 _ rfl h14 rfl (bys r2) 24 V14.out 32 5 tu24 H242.out (by rfl) ?_) | (refine wpList_load_blkG 24 _ rfl h16 rfl (bys r2) 24 V16.out 32 5 tu24 H242.out (by rfl) ?_))
      go_ret
      exact ⟨rfl, VB.out⟩
end Go.Proofs.Ytejeefkoalbcmaa

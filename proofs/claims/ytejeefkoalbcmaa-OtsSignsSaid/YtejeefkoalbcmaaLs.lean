/-
  The law OtsSigns, walked: it answers true for every key and every text.
-/
import Derived.Test.YtejeefkoalbcmaaRd
namespace Go.Proofs.Ytejeefkoalbcmaa
open Go.RowKit

/-- The call answers bytes that can be read, and a number. -/
def GivesR (l : List UInt8) (n : Int) (w : World) (e : Ending) (w' : World) : Prop := ∃ v, e = .returned (.tuple #[v, .int .i64 n]) ∧ Rd w'.heap.size w' v l ∧ Below w.heap.size w w'

theorem sign_both (I seed text : List UInt8) (q : Nat) (z : Int) (hI : I.length = 16) (hs : seed.length = 32) (hq : q < 4294967296) (hl : text.length ≤ 3000) :
    ∃ (l : List UInt8) (n : Int), (∀ tv w, Rd w.heap.size w tv text → Calls Try.prog 19 #[.agg (kcs I q seed z).toArray, tv] w (GivesR l n w)) ∧ (∀ tv w, Rd w.heap.size w tv text → Calls Try.prog 20 #[.agg (kcs I q seed z).toArray, tv] w (GivesR l n w)) := by
  rcases width_or z with ⟨k, hk, rfl⟩ | hz
  · refine ⟨sigL (pre20 I q) seed text k, 0, fun tv w ht => ?_, fun tv w ht => ?_⟩
    · exact (signX_yes I seed text q k tv w hI hs hq hk ht (by omega)).mono fun e w' ⟨v, he, ho, hb⟩ => ⟨v, he, ho.rd, hb⟩
    · exact (refSign_yes I seed text q k tv w hI hs hq hk ht (by omega)).mono fun e w' ⟨v, he, ho, hb⟩ => ⟨v, he, ho.rd, hb⟩
  · refine ⟨[], 1, fun tv w ht => ?_, fun tv w ht => ?_⟩
    · exact (signX_no I seed text q z tv w hI hs hq hz ht).mono fun e w' ⟨he, hb⟩ => ⟨_, he, Rd.nil _ _, hb⟩
    · exact (refSign_no I seed q z tv w hI hs hz).mono fun e w' ⟨he, hb⟩ => ⟨_, he, Rd.nil _ _, hb⟩

set_option maxRecDepth 100000 in
set_option maxHeartbeats 1000000 in
theorem signs_big (I seed : List UInt8) (q : Nat) (z : Int) (tv : Value) (text : List UInt8) (w : World) (ht : Rd w.heap.size w tv text) (hl : 3000 < text.length) :
    Calls Try.prog 4 #[.agg (kcs I q seed z).toArray, tv] w (One (.bool true) w) := by
  obtain ⟨At, ct, rfl, hct, hmt⟩ := ht.shape
  unfold maxLen at hmt
  obtain ⟨n, hn⟩ : ∃ n, text.length = n := ⟨_, rfl⟩
  rw [hn] at hl hct ⊢
  have zn : (3000 : Int) < (n : Int) := by omega
  clear ht hn
  go_enter Try.func4, Try.ntmps4
  go_wp2_with (refine wpList_box_blk rfl 26 _ rfl (kcs I q seed z) rfl ?_)
  intro v1 a1 a2 a3
  have A3 := Lib.hid a3
  clear a1 a2 a3
  go_wp2_with fail
  refine (alive_any _).mono ?_
  rintro e w1 ⟨rfl, hb⟩
  have B1 : Hid (Below w.heap.size w w1) := A3.out.trans (hb.mono A3.out.size)
  clear hb A3
  go_wp2
  go_ret
  exact ⟨rfl, B1.out⟩

set_option maxRecDepth 100000 in
set_option maxHeartbeats 1000000 in
theorem signs_small (I seed : List UInt8) (q : Nat) (z : Int) (tv : Value) (text : List UInt8) (w : World) (hI : I.length = 16) (hs : seed.length = 32) (hq : q < 4294967296) (ht : Rd w.heap.size w tv text) (hl : text.length ≤ 3000) :
    Calls Try.prog 4 #[.agg (kcs I q seed z).toArray, tv] w (One (.bool true) w) := by
  obtain ⟨l, en, h19, h20⟩ := sign_both I seed text q z hI hs hq hl
  have S19 := Lib.hid h19
  have S20 := Lib.hid h20
  obtain ⟨i0, hi0, hz0, hz1, hz2⟩ := info_parts info5
  have HIN := Lib.hid hi0
  have H0 := Lib.hid hz0
  have H1 := Lib.hid hz1
  have H2 := Lib.hid hz2
  have HI := Lib.hid hI
  have HS := Lib.hid hs
  have HT := Lib.hid ht
  have H26 : Hid ((Try.prog.info? 26).map (·.size) = some (kcs I q seed z).length) := by show _ = _; rw [kcs_length I seed q _ hI hs]; exact s26
  obtain ⟨d26, hu26, hd26⟩ := row26
  have HU := Lib.hid hu26
  have HD := Lib.hid hd26
  obtain ⟨At, ct, rfl, hct, hmt⟩ := ht.shape
  unfold maxLen at hmt
  obtain ⟨n, hn⟩ : ∃ n, text.length = n := ⟨_, rfl⟩
  have HTN := Lib.hid hn
  rw [hn] at hl hct HT ⊢
  have zn : ¬ ((3000 : Int) < (n : Int)) := by omega
  clear ht hn hI hs hu26 hd26 h19 h20 hi0 hz0 hz1 hz2
  go_enter Try.func4, Try.ntmps4
  go_wp2_with (refine wpList_box_blk rfl 26 _ rfl (kcs I q seed z) rfl ?_)
  intro v1 a1 a2 a3
  obtain ⟨g0, hg0⟩ : ∃ g, w.heap.size = g := ⟨_, rfl⟩
  rw [hg0] at a1 a2 a3 ⊢
  have A1 := Lib.hid a1
  have A3 : Hid (Below w.heap.size w v1) := by rw [hg0]; exact a3
  have hw0 : w.heap.size ≤ g0 := by omega
  clear a1 a2 a3 hg0
  go_wp2_with (at_builtin; refine wpList_app rfl _ _ 42 rfl 5 i0 Try.underlying42 HIN.out H0.out H1.out H2.out v1.heap.size w.heap.size _ _ [] text rfl (Own.lit 5 v1 _ 0 [] rfl (by omega) (by simp [bys])) rfl ((HT.out.below A3.out).below ((Below.refl w.heap.size v1).alloc A3.out.size _)) (by have := HTN.out; simp; omega) (by simp) ?_)
  intro v2 w2 hown hb
  obtain ⟨b, hbE⟩ : ∃ b, v1.heap.size = b := ⟨_, rfl⟩
  have hb' : Below v1.heap.size v1 w2 := ((Below.refl _ v1).alloc (Nat.le_refl _) _).trans hb
  have B1 : Hid (Blk w2 g0 (kcs I q seed z) 26) := A1.out.below hb' A1.out.lt
  have BB : Hid (Below w.heap.size w w2) := A3.out.trans (hb'.mono A3.out.size)
  have BO : Hid (Rd w2.heap.size w2 v2 text) := hown.rd
  clear hown hb hb' hbE A1 A3
  go_wp2_with (refine wpList_load_blkU rfl 26 _ rfl g0 rfl (kcs I q seed z) 26 B1.out d26 HU.out HD.out H26.out ?_)
  refine (S19.out _ _ BO.out).mono ?_
  rintro e w3 ⟨v3, rfl, hr3, hb⟩
  have C1 : Hid (Blk w3 g0 (kcs I q seed z) 26) := B1.out.below hb B1.out.lt
  have CB : Hid (Below w.heap.size w w3) := BB.out.trans (hb.mono BB.out.size)
  have CO : Hid (Rd w3.heap.size w3 v2 text) := (BO.out.below hb).more hb.size
  have CX : Hid (Rd w3.heap.size w3 v3 l) := hr3
  clear hr3 hb B1 BB BO
  go_wp2_with (refine wpList_load_blkU rfl 26 _ rfl g0 rfl (kcs I q seed z) 26 C1.out d26 HU.out HD.out H26.out ?_)
  refine (plain_any I seed q z _ HI.out HS.out).mono ?_
  rintro e w4 ⟨rfl, hb⟩
  have DB : Hid (Below w.heap.size w w4) := CB.out.trans (hb.mono CB.out.size)
  have DO : Hid (Rd w4.heap.size w4 v2 text) := (CO.out.below hb).more hb.size
  have DX : Hid (Rd w4.heap.size w4 v3 l) := (CX.out.below hb).more hb.size
  have DT : Hid (Rd w4.heap.size w4 (.slice At n ct) text) := (HT.out.below DB.out).more DB.out.size
  clear hb C1 CB CO CX
  go_wp2_with fail
  refine (S20.out _ _ DT.out).mono ?_
  rintro e w5 ⟨v5, rfl, hr5, hb⟩
  have EB : Hid (Below w.heap.size w w5) := DB.out.trans (hb.mono DB.out.size)
  have EO : Hid (Rd w5.heap.size w5 v2 text) := (DO.out.below hb).more hb.size
  have EX : Hid (Rd w5.heap.size w5 v3 l) := (DX.out.below hb).more hb.size
  have EY : Hid (Rd w5.heap.size w5 v5 l) := hr5
  clear hr5 hb DB DO DX DT
  go_wp2_with fail
  refine (alive_any _).mono ?_
  rintro e w6 ⟨rfl, hb⟩
  have FB : Hid (Below w.heap.size w w6) := EB.out.trans (hb.mono EB.out.size)
  have fO := EO.out.below hb
  have fX := EX.out.below hb
  have fY := EY.out.below hb
  have fT := HT.out.below FB.out
  clear hb EB EO EX EY
  obtain ⟨A2, c2, rfl, _, _⟩ := fO.shape
  obtain ⟨A3, c3, rfl, _, _⟩ := fX.shape
  obtain ⟨A5, c5, rfl, _, _⟩ := fY.shape
  have t1 := run_string_rd 42 9 5 Try.underlying42 Try.underlying5 Try.underlying9 fO
  have t2 := run_string_rd 42 9 5 Try.underlying42 Try.underlying5 Try.underlying9 fX
  have t3 := run_string_rd 42 9 5 Try.underlying42 Try.underlying5 Try.underlying9 fY
  have t4 := run_string_rd 42 9 5 Try.underlying42 Try.underlying5 Try.underlying9 fT
  clear fO fX fY fT
  go_wp2
  go_ret
  exact ⟨rfl, FB.out⟩

theorem signs_all (I seed : List UInt8) (q : Nat) (z : Int) (tv : Value) (text : List UInt8) (w : World) (hI : I.length = 16) (hs : seed.length = 32) (hq : q < 4294967296) (ht : Rd w.heap.size w tv text) :
    Calls Try.prog 4 #[.agg (kcs I q seed z).toArray, tv] w (One (.bool true) w) := by
  by_cases hl : 3000 < text.length
  · exact signs_big I seed q z tv text w ht hl
  · exact signs_small I seed q z tv text w hI hs hq ht (by omega)
end Go.Proofs.Ytejeefkoalbcmaa

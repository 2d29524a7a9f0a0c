/-
  Package ots, the hash of what all hashes of a key begin with and of any parts behind it.
-/
import Derived.Test.YtejeefkoalbcmaaO1
namespace Go.Proofs.Ytejeefkoalbcmaa
open Go.RowKit

/-- A slice of byte slices reads as these rows. -/
def RdL (B : Nat) (w : World) (A : Option Addr) (c : Nat) (ls : List (List UInt8)) : Prop :=
  ls.length ≤ c ∧ c ≤ maxLen ∧ (A = none → c = 0) ∧ ∀ a, A = some a → ∀ r (h : r < ls.length), a.block < B ∧ ∃ vr, w.cell? (a.add r) = some vr ∧ Rd B w vr ls[r]

theorem Obj.below {w w' : World} {g B : Nat} {bs : List UInt8} (h : Obj w g bs) (hb : Below B w w') (hg : g < B) : Obj w' g bs := by
  obtain ⟨st, left, h1, h2⟩ := h
  exact ⟨st, left, h1.below hb hg, h2⟩
theorem apart_of {g B : Nat} {w : World} {v : Value} {l : List UInt8} (h : Rd B w v l) (hB : B ≤ g) : Apart g v := fun a n c hv hn => by
  obtain ⟨A, c', rfl, _, _, _, hr⟩ := h
  injection hv with e1 e2 e3
  subst e1
  have := (hr a rfl).1 (by omega)
  omega

/-- What the loop keeps. -/
def HashAt (w : World) (g r : Nat) (bs : List UInt8) (wr : World) : Prop := Obj wr g bs ∧ Blk wr r z32 24 ∧ Below w.heap.size w wr

set_option maxRecDepth 100000 in
set_option maxHeartbeats 1000000 in
theorem hash_any (p : List UInt8) (A : Option Addr) (c n : Nat) (ls : List (List UInt8)) (w : World) (h : RdL w.heap.size w A c ls) (hn : ls.length = n) (hp : p.length = 20) (hlen : (p ++ ls.flatten).length ≤ 900000) (hsm : ∀ l ∈ ls, l.length ≤ 900000) :
    Calls Try.prog 50 #[.agg (bys p).toArray, .slice A n c] w (Arr (bys (hash (p ++ ls.flatten))) w) := by
  subst hn
  have HP := Lib.hid hp
  have HSM := Lib.hid hsm
  have HLEN := Lib.hid hlen
  obtain ⟨hc, hm, hn, hrow⟩ := h
  unfold maxLen at hm
  have HN := Lib.hid hn
  have HROW := Lib.hid hrow
  have H24 : Hid ((Try.prog.info? 24).map (·.size) = some (bys (hash (p ++ ls.flatten))).length) := by show _ = _; rw [bys_length, hash_length]; exact s24
  have HLZ : Hid (z32.length = (bys (hash (p ++ ls.flatten))).length) := by show _ = _; rw [bys_length, hash_length, z32_length]
  obtain ⟨N, hN⟩ : ∃ N, ls.length = N := ⟨_, rfl⟩
  have HNN := Lib.hid hN
  rw [hN] at hc ⊢
  clear hp hsm hlen hn hrow hN
  go_enter Try.func50, Try.ntmps50
  go_wp2_with (refine wpList_box_blk rfl 67 _ rfl (bys p) rfl ?_)
  intro w1 a1 a2 a3
  have A1 := Lib.hid a1
  have A2 := Lib.hid a2
  have A3 := Lib.hid a3
  clear a1 a2 a3
  go_wp2_with (refine wpList_alloc_blk rfl 24 rfl _ z24 ?_)
  intro w2 a1 a2 a3
  rw [A2.out] at a1 a2 a3 ⊢
  have G1 : Hid (Blk w2 w.heap.size (bys p) 67) := A1.out.below a3 (by omega)
  have G2 : Hid (Blk w2 (w.heap.size + 1) z32 24) := a1
  have GB : Hid (Below w.heap.size w w2) := A3.out.trans (a3.mono (by omega))
  have HS2 := Lib.hid a2
  clear a1 a2 a3 A1 A2 A3
  go_wp2_with fail
  refine (new_any w2).mono ?_
  rintro e w3 ⟨rfl, hsz3, hob3, hb3⟩
  obtain ⟨g, hg⟩ : ∃ g, w3.heap.size - 1 = g := ⟨_, rfl⟩
  rw [hg] at hob3 ⊢
  have hs2 := HS2.out
  have hgl : w.heap.size + 1 < g := by omega
  have E1 : Hid (Blk w3 w.heap.size (bys p) 67) := G1.out.below hb3 (by omega)
  have E2 : Hid (Blk w3 (w.heap.size + 1) z32 24) := G2.out.below hb3 (by omega)
  have EB : Hid (Below w.heap.size w w3) := GB.out.trans (hb3.mono (by omega))
  have EO := Lib.hid hob3
  have hs3 : g < w3.heap.size := by omega
  clear hob3 hb3 hsz3 hg G1 G2 GB HS2 hs2
  go_wp2_with fail
  have hpl := HP.out
  refine (write_any g [] _ p w3 EO.out (Rd.blk 20 hpl E1.out (by omega) (by omega)) (fun a n c hv _ => by injection hv with e1 e2 e3; injection e1 with e1; subst e1; show w.heap.size ≠ g; omega) (by simp; omega)).mono ?_
  rintro e w4 ⟨rfl, hob4, hbut4⟩
  rw [List.nil_append] at hob4
  have K0 : Hid (HashAt w g (w.heap.size + 1) (p ++ (ls.take 0).flatten) w4) := ⟨by simpa using hob4, hbut4.blk E2.out (by omega), EB.out.trans (hbut4.below (by omega) EB.out.size)⟩
  clear hob4 hbut4 E1 E2 EB EO hs3 hpl
  go_wp2
  go_loopw [14] (fun x wr => ∃ i : Nat, i ≤ N ∧ x = .int .i64 i ∧ Hid (HashAt w g (w.heap.size + 1) (p ++ (ls.take i).flatten) wr)) (fun x _ => N - (intOf x).toNat)
  case atStart => exact ⟨0, by omega, rfl, K0⟩
  case round =>
    clear K0
    obtain ⟨i, hi, rfl, K⟩ := hrel
    by_cases hi2 : i < N
    · have hi3 : i < ls.length := by have := HNN.out; omega
      obtain ⟨a, rfl⟩ : ∃ a, A = some a := by
        cases A with
        | none => have := HN.out rfl; omega
        | some a => exact ⟨a, rfl⟩
      obtain ⟨hab, vr, hcv, hrd⟩ := HROW.out a rfl i hi3
      obtain ⟨l, hl⟩ : ∃ l, ls[i] = l := ⟨_, rfl⟩
      have hbs : p ++ (ls.take (i + 1)).flatten = (p ++ (ls.take i).flatten) ++ l := by
        rw [List.take_succ_eq_append_getElem hi3, hl]; simp
      have hlb : (p ++ (ls.take i).flatten).length + l.length ≤ 1000000 := by
        have h1 := HLEN.out
        have h2 : ls.flatten = (ls.take (i + 1)).flatten ++ (ls.drop (i + 1)).flatten := by rw [← List.flatten_append, List.take_append_drop]
        rw [h2, ← List.append_assoc, hbs, List.length_append, List.length_append] at h1
        omega
      have HBS := Lib.hid hbs
      have HLB := Lib.hid hlb
      rw [hl] at hrd
      have HRD := Lib.hid hrd
      obtain ⟨A5, c5, hv5, hc5, hm5⟩ := hrd.shape
      subst hv5
      unfold maxLen at hm5
      have cv : wr.cell? (a.add i) = some (.slice A5 l.length c5) := by rw [K.out.2.2.cell (by rw [addr_block]; exact hab)]; exact hcv
      have zi : (i : Int) < (N : Int) := by omega
      clear hcv hl hrd hbs hlb
      go_wp2_with fail
      clear cv
      have hkb := K.out.2.2
      refine (write_any g _ _ l wr K.out.1 ((HRD.out.below hkb).more hkb.size) (apart_of HRD.out (by omega)) HLB.out).mono ?_
      rintro e w5 ⟨rfl, hob5, hbut5⟩
      have K5 : Hid (HashAt w g (w.heap.size + 1) (p ++ (ls.take (i + 1)).flatten) w5) := by
        refine ⟨by rw [HBS.out]; exact hob5, hbut5.blk K.out.2.1 (by omega), hkb.trans (hbut5.below (by omega) hkb.size)⟩
      clear hob5 hbut5 hkb K
      go_wp2
      go_roundw
      case rel => exact ⟨i + 1, by omega, by go_num, K5⟩
      case measure => simp [intOf]; omega
    · have zi : ¬ (i : Int) < (N : Int) := by omega
      have hiN : i = ls.length := by have := HNN.out; omega
      have hbs : p ++ (ls.take i).flatten = p ++ ls.flatten := by rw [hiN, List.take_length]
      rw [hbs] at K
      clear hbs hiN
      go_wp2_with fail
      refine (sumS_any g _ wr K.out.1 (by have := HLEN.out; omega)).mono ?_
      rintro e w5 ⟨rfl, hb5⟩
      have L1 : Hid (Blk w5 (w.heap.size + 1) z32 24) := K.out.2.1.below hb5 (by have := K.out.2.1.lt; omega)
      have LB : Hid (Below w.heap.size w w5) := K.out.2.2.trans (hb5.mono K.out.2.2.size)
      clear hb5 K
      obtain ⟨H, hH⟩ : ∃ H, hash (p ++ ls.flatten) = H := ⟨_, rfl⟩
      rw [hH] at H24 HLZ ⊢
      have HH := Lib.hid hH
      clear hH
      go_wp2_with (refine wpList_store_blk rfl 24 _ _ rfl (w.heap.size + 1) (bys H) z32 24 rfl rfl L1.out H24.out HLZ.out (bys_one' _) ?_)
      refine bodyPost_ret (v := .agg (bys H).toArray) ?_ rfl ?_
      · exact ret_blk rfl _ _ (w.heap.size + 1) 24 _ rfl L1.out.setRow 32 5 tu24 H24.out
      · exact ⟨by rw [HH.out], below_setRow' LB.out (by omega) _⟩
end Go.Proofs.Ytejeefkoalbcmaa

/-
  Package ots, what all its hashes begin with: fourBytes, twoBytes and prefixOf, for every input. Package ots, the hash of what all hashes of a key begin with and of any parts behind it. Package ots, plain words: secrets, chains, randomizer, message hash and public hash over lists of bytes; a key's cells; what a slice of byte slices reads as. Package ots: secret, for every key and every digit's number. Package ots: randomizer, messageHash and publicHash, for every input. Package ots: chain, for every digit's number and steps up to 255.
-/
import Derived.Test.YtllncnnigjgadaaGreatMs
import Derived.Test.YtllncnnigjgadaaGreatOJ
import Derived.Test.YtllncnnigjgadaaGreatDD
namespace Go.Proofs.YtllncnnigjgadaaGreat
open Go.RowKit

/-- What all hashes of a key begin with. -/
def pre20 (I : List UInt8) (q : Nat) : List UInt8 := I ++ be 4 q
theorem pre20_length (I : List UInt8) (q : Nat) (h : I.length = 16) : (pre20 I q).length = 20 := by simp [pre20, be_length, h]

/-- Bytes in a new block. -/
theorem Own.lit (e : TypeId) (w : World) (cs : Array Value) (n : Nat) (l : List UInt8) (hn : l.length = n) (hl : n ≤ 1000000) (h : cs = (bys l).toArray) : Own e (w.alloc (.cells cs e)) w.heap.size (.slice (some ⟨w.heap.size, 0, none⟩) n n) l := by
  subst hn h
  have := World.ownsRow_lit (base := w.heap.size) (e := e) (size := 1) w (bys l).toArray l.length (Nat.le_refl _) (by unfold maxLen; omega) (by simp [bys_length])
  unfold Own
  simpa using this
/-- An array's bytes, read where they lie. -/
theorem Rd.blk {w : World} {g B : Nat} {t : TypeId} {l : List UInt8} (n : Nat) (hn : l.length = n) (h : Blk w g (bys l) t) (hg : g < B) (hl : n ≤ 1000000) : Rd B w (.slice (some ⟨g, 0, none⟩) n n) l := by
  subst hn
  refine ⟨some ⟨g, 0, none⟩, l.length, rfl, Nat.le_refl _, by unfold maxLen; omega, fun h => (by cases h), fun a ha => ?_⟩
  cases ha
  refine ⟨fun _ => hg, fun j hj => ?_⟩
  rw [Addr.add_mid, h.cell, Nat.zero_add, bys_get l j hj]

/-- A law of an operation in a region that is walked in its order serves in one whose order is open. -/
theorem wp_of_list {P : Program} {o : Oper} {a : Act} {w : World} {K : Act → World → Prop} {Q : Exit → Act → World → Prop} (hg : o.guard = none)
    (h : wpList P #[] (fun e a w => match e with | .normal => K a w | .panic c => Q (.panic c) a w | _ => False) [o] a w) : o.wp P a w K Q := by
  unfold wpList at h
  simp only [Region.wanted, hg, if_true] at h
  rcases h with h | h
  · unfold Oper.wp at *
    generalize (execOp a.eval o).run P w = r at *
    cases r with
    | ok n w' =>
      cases n <;> simp only [Oper.upon] at h ⊢ <;>
        first
          | exact h
          | exact Calls.mono h (fun e w'' he => by cases e <;> first | exact he | (obtain ⟨_, _, hf⟩ := he; exact hf.elim))
          | exact Rows.mono h (fun _ _ he => he)
    | halt x w' => cases x <;> simp only [Oper.upon] at h ⊢ <;> exact h
  · obtain ⟨_, _, _, hf⟩ := h
    exact hf.elim

set_option maxHeartbeats 400000 in
theorem fourBytes_any (q : Nat) (w : World) (hq : q < 4294967296) : Calls Tryz.prog 89 #[.int .u32 (q : Int)] w (Gives w.heap.size (be 4 q) w) := by
  have zq : (q : Int) < 4294967296 := by omega
  go_enter Tryz.func89, Tryz.ntmps89
  go_wp2
  go_ret
  refine ⟨_, rfl, Own.lit 5 w _ 4 (be 4 q) (be_length _ _) (by omega) ?_, (Below.refl _ _).alloc (Nat.le_refl _) _⟩
  simp [be, bys]
  omega

set_option maxHeartbeats 400000 in
theorem twoBytes_any (i : Nat) (w : World) (hi : i < 65536) : Calls Tryz.prog 99 #[.int .i64 (i : Int)] w (Gives w.heap.size (by2 i) w) := by
  have zq : (i : Int) < 65536 := by omega
  go_enter Tryz.func99, Tryz.ntmps99
  go_wp2
  go_ret
  refine ⟨_, rfl, Own.lit 5 w _ 2 (by2 i) rfl (by omega) ?_, (Below.refl _ _).alloc (Nat.le_refl _) _⟩
  simp [by2, bys]
  omega

def z20 : List Value := bys (List.replicate 20 0)
theorem z20_length : z20.length = 20 := by decide
theorem zi67 : (Tryz.prog.info? 102).map (·.zero) = some (some (.agg z20.toArray)) := by kernel_rfl
theorem s67 : (Tryz.prog.info? 102).map (·.size) = some 20 := by kernel_rfl
theorem tu67 : Tryz.prog.underlying 102 = some (.array 20 5) := by kernel_rfl
theorem tu22 : Tryz.prog.underlying 29 = some (.array 16 5) := by kernel_rfl
theorem s22 : (Tryz.prog.info? 29).map (·.size) = some 16 := by kernel_rfl

set_option maxRecDepth 100000 in
set_option maxHeartbeats 1000000 in
theorem prefixOf_any (I : List UInt8) (q : Nat) (w : World) (hI : I.length = 16) (hq : q < 4294967296) : Calls Tryz.prog 54 #[.agg (bys I).toArray, .int .u32 (q : Int)] w (Arr (bys (pre20 I q)) w) := by
  have HI := Lib.hid hI
  have H67 : Hid ((Tryz.prog.info? 102).map (·.size) = some (bys (pre20 I q)).length) := by show _ = _; rw [bys_length, pre20_length I q hI]; exact s67
  have HLZ : Hid (z20.length = (bys (pre20 I q)).length) := by show _ = _; rw [bys_length, pre20_length I q hI, z20_length]
  clear hI
  go_enter Tryz.func54, Tryz.ntmps54
  go_wp2_with (refine wpList_box_blk rfl 29 _ rfl (bys I) rfl ?_)
  intro w1 a1 a2 a3
  have A1 := Lib.hid a1
  have A2 := Lib.hid a2
  have A3 := Lib.hid a3
  clear a1 a2 a3
  go_wp2_with (refine wpList_alloc_blk rfl 102 rfl _ zi67 ?_)
  intro w2 a1 a2 a3
  rw [A2.out] at a1 a2 a3 ⊢
  have G1 : Hid (Blk w2 w.heap.size (bys I) 29) := A1.out.below a3 (by omega)
  have G2 : Hid (Blk w2 (w.heap.size + 1) z20 102) := a1
  have GB : Hid (Below w.heap.size w w2) := A3.out.trans (a3.mono (by omega))
  have hs2 := a2
  clear a1 a2 a3 A1 A2 A3
  go_wp2_with (refine wpList_alloc_blk rfl 102 rfl _ zi67 ?_)
  intro w3 a1 a2 a3
  have E1 : Hid (Blk w3 w.heap.size (bys I) 29) := G1.out.below a3 (by omega)
  have E2 : Hid (Blk w3 (w.heap.size + 1) z20 102) := G2.out.below a3 (by omega)
  have E3 : Hid (Blk w3 (w.heap.size + 1 + 1) z20 102) := a1
  have EB : Hid (Below w.heap.size w w3) := GB.out.trans (a3.mono (by omega))
  have hs3 := a2
  clear a1 a2 a3 G1 G2 GB hs2
  go_wp2
  refine wp_region_till 3 2 (fun _ => True) (by kernel_rfl) rfl ?_
  refine AnyTill.free (i := 0) (v := .slice (some ⟨w.heap.size + 1 + 1, 0, none⟩) 20 20) rfl (by kernel_rfl) (by kernel_rfl) (by kernel_rfl) (by kernel_rfl) (fun _ _ _ h => h) (by rfl) (fun w' => ?_) trivial ?_
  · first | (go_simp; done) | (go_simp; rfl)
  simp only [Act.put, List.setIfInBounds_toArray, List.set_cons_zero, List.set_cons_succ]
  refine AnyTill.free (i := 1) (v := .slice (some ⟨w.heap.size, 0, none⟩) 16 16) rfl (by kernel_rfl) (by kernel_rfl) (by kernel_rfl) (by kernel_rfl) (fun _ _ _ h => h) (by rfl) (fun w' => ?_) trivial ?_
  · first | (go_simp; done) | (go_simp; rfl)
  simp only [Act.put, List.setIfInBounds_toArray, List.set_cons_zero, List.set_cons_succ]
  refine AnyTill.one (i := 2) (by kernel_rfl) rfl (by rfl) (fun K hK => ?_)
  have hIl := HI.out
  refine wp_of_list rfl (wpList_copy_to rfl _ _ 22 rfl 5 Tryz.underlying22 s5 (w.heap.size + 1 + 1) 0 20 20 _ rfl rfl z20 102 E3.out.drew (w.heap.size + 1) I (Rd.blk 16 hIl E1.out.drew (by omega) (by omega)) (by rw [z20_length]; omega) 16 (by rw [List.length_take]; omega) (bys (I ++ List.replicate 4 0)) ?_ ?_)
  · have e : I.take 20 = I := List.take_of_length_le (by omega)
    rw [e, bys_append, hIl]
    rfl
  intro w4 h4 hb4
  refine hK.out _ _ (.inl (by kernel_rfl)) ?_
  clear hK K
  refine AnyTill.done (by kernel_rfl) ?_
  refine NoPanic.normal ?_
  simp only [Act.put, List.setIfInBounds_toArray, List.set_cons_zero, List.set_cons_succ]
  have F2 : Hid (Blk w4 (w.heap.size + 1) z20 102) := hb4.blk E2.out.drew (by omega)
  have F3 := Lib.hid h4
  have FB : Hid (Below w.heap.size w w4) := EB.out.trans (((Below.refl _ _).drew).trans (hb4.below (by omega) (by simp; omega)))
  have hs4 : w.heap.size + 1 + 1 + 1 ≤ w4.heap.size := by have := hb4.size; simp at this; omega
  clear h4 hb4 E1 E2 E3 EB hs3
  go_wp2
  refine wp_region_till 4 3 (fun w' => Below w4.heap.size w4 w') (by kernel_rfl) rfl ?_
  have hS : Below w4.heap.size w4 w4.drew := (Below.refl _ _).drew
  refine AnyTill.free (i := 0) (v := .slice (some ⟨w.heap.size + 1 + 1, 16, none⟩) 4 4) rfl (by kernel_rfl) (by kernel_rfl) (by kernel_rfl) (by kernel_rfl) (fun _ _ _ h => h) (by rfl) (fun w' => ?_) hS ?_
  · first | (go_simp; done) | (go_simp; rfl)
  simp only [Act.put, List.setIfInBounds_toArray, List.set_cons_zero, List.set_cons_succ]
  refine AnyTill.free (i := 1) (v := .int .u32 (q : Int)) rfl (by kernel_rfl) (by kernel_rfl) (by kernel_rfl) (by kernel_rfl) (fun _ _ _ h => h) (by rfl) (fun w' => ?_) hS ?_
  · first | (go_simp; done) | (go_simp; rfl)
  simp only [Act.put, List.setIfInBounds_toArray, List.set_cons_zero, List.set_cons_succ]
  refine AnyTill.one (i := 2) (by kernel_rfl) rfl (by rfl) (fun K hK => ?_)
  go_simp
  refine (fourBytes_any q _ hq).mono ?_
  rintro e w5 ⟨v5, rfl, hown5, hb5⟩
  have hS5 : Below w4.heap.size w4 w5 := hS.trans hb5
  refine hK.out _ _ (.inr hS5) ?_
  clear hK K
  refine AnyTill.one (i := 3) (by kernel_rfl) rfl (by rfl) (fun K hK => ?_)
  refine wp_of_list rfl (wpList_copy_to rfl _ _ 22 rfl 5 Tryz.underlying22 s5 (w.heap.size + 1 + 1) 16 4 4 _ rfl rfl (bys (I ++ List.replicate 4 0)) 102 (F3.out.below hS5 (by omega)) w5.heap.size (be 4 q) hown5.rd (by rw [bys_length]; simp; omega) 4 (by rw [List.length_take, be_length]; omega) (bys (pre20 I q)) ?_ ?_)
  · have e : (be 4 q).take 4 = be 4 q := List.take_of_length_le (by rw [be_length]; omega)
    rw [e, be_length, bys_append, List.take_append_of_le_length (by rw [bys_length]; omega), List.take_of_length_le (by rw [bys_length]; omega), List.drop_of_length_le (by simp [bys_length]; omega)]
    simp [pre20, bys_append]
  intro w6 h6 hb6
  refine hK.out _ _ (.inl (by kernel_rfl)) ?_
  clear hK K
  refine AnyTill.done (by kernel_rfl) ?_
  refine NoPanic.normal ?_
  simp only [Act.put, List.setIfInBounds_toArray, List.set_cons_zero, List.set_cons_succ]
  have D2 : Hid (Blk w6 (w.heap.size + 1) z20 102) := hb6.blk (F2.out.below hS5 (by omega)) (by omega)
  have D3 := Lib.hid h6
  have DB : Hid (Below w.heap.size w w6) := FB.out.trans ((hS5.mono (by omega)).trans (hb6.below (by omega) (by have := hS5.size; omega)))
  clear h6 hb6 hown5 hb5 hS hS5 F2 F3 FB
  go_wp2_with (first | (refine wpList_load_blk rfl 102 _ rfl (w.heap.size + 1 + 1) rfl (bys (pre20 I q)) 102 D3.out 20 5 tu67 H67.out ?_) | (refine wpList_store_blk rfl 102 _ _ rfl (w.heap.size + 1) (bys (pre20 I q)) z20 102 rfl rfl D2.out H67.out HLZ.out (bys_one' _) ?_))
  refine bodyPost_ret (v := .agg (bys (pre20 I q)).toArray) ?_ rfl ?_
  · exact ret_blk rfl _ _ (w.heap.size + 1) 102 _ rfl D2.out.setRow 20 5 tu67 H67.out
  · exact ⟨rfl, below_setRow' DB.out (by omega) _⟩
end Go.Proofs.YtllncnnigjgadaaGreat

namespace Go.Proofs.YtllncnnigjgadaaGreat
open Go.RowKit

/-- A slice of byte slices reads as these rows. -/
def RdL (B : Nat) (w : World) (A : Option Addr) (c : Nat) (ls : List (List UInt8)) : Prop :=
  ls.length ≤ c ∧ c ≤ maxLen ∧ (A = none → c = 0) ∧ ∀ a, A = some a → ∀ r (h : r < ls.length), a.block < B ∧ ∃ vr, w.cell? (a.add r) = some vr ∧ Rd B w vr ls[r]

theorem Obj.below {w w' : World} {g B : Nat} {bs : List UInt8} (h : Obj w g bs) (hb : Below B w w') (hg : g < B) : Obj w' g bs := by
  obtain ⟨st, left, h1, h2⟩ := h
  exact ⟨st, left, h1.below hb hg, h2⟩
theorem apart_of {g B : Nat} {w : World} {v : Value} {l : List UInt8} (h : Rd B w v l) (hB : B ≤ g) : Apart g v := fun a n c hv hn => by
  obtain ⟨A, c', rfl, _, _, _, hr⟩ := h
  injection hv with e1 e2 e3
  subst e1
  have := (hr a rfl).1 (by omega)
  omega

/-- What the loop keeps. -/
def HashAt (w : World) (g r : Nat) (bs : List UInt8) (wr : World) : Prop := Obj wr g bs ∧ Blk wr r z32 30 ∧ Below w.heap.size w wr

set_option maxRecDepth 100000 in
set_option maxHeartbeats 1000000 in
theorem hash_any (p : List UInt8) (A : Option Addr) (c n : Nat) (ls : List (List UInt8)) (w : World) (h : RdL w.heap.size w A c ls) (hn : ls.length = n) (hp : p.length = 20) (hlen : (p ++ ls.flatten).length ≤ 900000) (hsm : ∀ l ∈ ls, l.length ≤ 900000) :
    Calls Tryz.prog 98 #[.agg (bys p).toArray, .slice A n c] w (Arr (bys (hash (p ++ ls.flatten))) w) := by
  subst hn
  have HP := Lib.hid hp
  have HSM := Lib.hid hsm
  have HLEN := Lib.hid hlen
  obtain ⟨hc, hm, hn, hrow⟩ := h
  unfold maxLen at hm
  have HN := Lib.hid hn
  have HROW := Lib.hid hrow
  have H24 : Hid ((Tryz.prog.info? 30).map (·.size) = some (bys (hash (p ++ ls.flatten))).length) := by show _ = _; rw [bys_length, hash_length]; exact s24
  have HLZ : Hid (z32.length = (bys (hash (p ++ ls.flatten))).length) := by show _ = _; rw [bys_length, hash_length, z32_length]
  obtain ⟨N, hN⟩ : ∃ N, ls.length = N := ⟨_, rfl⟩
  have HNN := Lib.hid hN
  rw [hN] at hc ⊢
  clear hp hsm hlen hn hrow hN
  go_enter Tryz.func98, Tryz.ntmps98
  go_wp2_with (refine wpList_box_blk rfl 102 _ rfl (bys p) rfl ?_)
  intro w1 a1 a2 a3
  have A1 := Lib.hid a1
  have A2 := Lib.hid a2
  have A3 := Lib.hid a3
  clear a1 a2 a3
  go_wp2_with (refine wpList_alloc_blk rfl 30 rfl _ z24 ?_)
  intro w2 a1 a2 a3
  rw [A2.out] at a1 a2 a3 ⊢
  have G1 : Hid (Blk w2 w.heap.size (bys p) 102) := A1.out.below a3 (by omega)
  have G2 : Hid (Blk w2 (w.heap.size + 1) z32 30) := a1
  have GB : Hid (Below w.heap.size w w2) := A3.out.trans (a3.mono (by omega))
  have HS2 := Lib.hid a2
  clear a1 a2 a3 A1 A2 A3
  go_wp2_with fail
  refine (new_any w2).mono ?_
  rintro e w3 ⟨rfl, hsz3, hob3, hb3⟩
  obtain ⟨g, hg⟩ : ∃ g, w3.heap.size - 1 = g := ⟨_, rfl⟩
  rw [hg] at hob3 ⊢
  have hs2 := HS2.out
  have hgl : w.heap.size + 1 < g := by omega
  have E1 : Hid (Blk w3 w.heap.size (bys p) 102) := G1.out.below hb3 (by omega)
  have E2 : Hid (Blk w3 (w.heap.size + 1) z32 30) := G2.out.below hb3 (by omega)
  have EB : Hid (Below w.heap.size w w3) := GB.out.trans (hb3.mono (by omega))
  have EO := Lib.hid hob3
  have hs3 : g < w3.heap.size := by omega
  clear hob3 hb3 hsz3 hg G1 G2 GB HS2 hs2
  go_wp2_with fail
  have hpl := HP.out
  refine (write_any g [] _ p w3 EO.out (Rd.blk 20 hpl E1.out (by omega) (by omega)) (fun a n c hv _ => by injection hv with e1 e2 e3; injection e1 with e1; subst e1; show w.heap.size ≠ g; omega) (by simp; omega)).mono ?_
  rintro e w4 ⟨rfl, hob4, hbut4⟩
  rw [List.nil_append] at hob4
  have K0 : Hid (HashAt w g (w.heap.size + 1) (p ++ (ls.take 0).flatten) w4) := ⟨by simpa using hob4, hbut4.blk E2.out (by omega), EB.out.trans (hbut4.below (by omega) EB.out.size)⟩
  clear hob4 hbut4 E1 E2 EB EO hs3 hpl
  go_wp2
  go_loopw [14] (fun x wr => ∃ i : Nat, i ≤ N ∧ x = .int .i64 i ∧ Hid (HashAt w g (w.heap.size + 1) (p ++ (ls.take i).flatten) wr)) (fun x _ => N - (intOf x).toNat)
  case atStart => exact ⟨0, by omega, rfl, K0⟩
  case round =>
    clear K0
    obtain ⟨i, hi, rfl, K⟩ := hrel
    by_cases hi2 : i < N
    · have hi3 : i < ls.length := by have := HNN.out; omega
      obtain ⟨a, rfl⟩ : ∃ a, A = some a := by
        cases A with
        | none => have := HN.out rfl; omega
        | some a => exact ⟨a, rfl⟩
      obtain ⟨hab, vr, hcv, hrd⟩ := HROW.out a rfl i hi3
      obtain ⟨l, hl⟩ : ∃ l, ls[i] = l := ⟨_, rfl⟩
      have hbs : p ++ (ls.take (i + 1)).flatten = (p ++ (ls.take i).flatten) ++ l := by
        rw [List.take_succ_eq_append_getElem hi3, hl]; simp
      have hlb : (p ++ (ls.take i).flatten).length + l.length ≤ 1000000 := by
        have h1 := HLEN.out
        have h2 : ls.flatten = (ls.take (i + 1)).flatten ++ (ls.drop (i + 1)).flatten := by rw [← List.flatten_append, List.take_append_drop]
        rw [h2, ← List.append_assoc, hbs, List.length_append, List.length_append] at h1
        omega
      have HBS := Lib.hid hbs
      have HLB := Lib.hid hlb
      rw [hl] at hrd
      have HRD := Lib.hid hrd
      obtain ⟨A5, c5, hv5, hc5, hm5⟩ := hrd.shape
      subst hv5
      unfold maxLen at hm5
      have cv : wr.cell? (a.add i) = some (.slice A5 l.length c5) := by rw [K.out.2.2.cell (by rw [addr_block]; exact hab)]; exact hcv
      have zi : (i : Int) < (N : Int) := by omega
      clear hcv hl hrd hbs hlb
      go_wp2_with fail
      clear cv
      have hkb := K.out.2.2
      refine (write_any g _ _ l wr K.out.1 ((HRD.out.below hkb).more hkb.size) (apart_of HRD.out (by omega)) HLB.out).mono ?_
      rintro e w5 ⟨rfl, hob5, hbut5⟩
      have K5 : Hid (HashAt w g (w.heap.size + 1) (p ++ (ls.take (i + 1)).flatten) w5) := by
        refine ⟨by rw [HBS.out]; exact hob5, hbut5.blk K.out.2.1 (by omega), hkb.trans (hbut5.below (by omega) hkb.size)⟩
      clear hob5 hbut5 hkb K
      go_wp2
      go_roundw
      case rel => exact ⟨i + 1, by omega, by go_num, K5⟩
      case measure => simp [intOf]; omega
    · have zi : ¬ (i : Int) < (N : Int) := by omega
      have hiN : i = ls.length := by have := HNN.out; omega
      have hbs : p ++ (ls.take i).flatten = p ++ ls.flatten := by rw [hiN, List.take_length]
      rw [hbs] at K
      clear hbs hiN
      go_wp2_with fail
      refine (sumS_any g _ wr K.out.1 (by have := HLEN.out; omega)).mono ?_
      rintro e w5 ⟨rfl, hb5⟩
      have L1 : Hid (Blk w5 (w.heap.size + 1) z32 30) := K.out.2.1.below hb5 (by have := K.out.2.1.lt; omega)
      have LB : Hid (Below w.heap.size w w5) := K.out.2.2.trans (hb5.mono K.out.2.2.size)
      clear hb5 K
      obtain ⟨H, hH⟩ : ∃ H, hash (p ++ ls.flatten) = H := ⟨_, rfl⟩
      rw [hH] at H24 HLZ ⊢
      have HH := Lib.hid hH
      clear hH
      go_wp2_with (refine wpList_store_blk rfl 30 _ _ rfl (w.heap.size + 1) (bys H) z32 30 rfl rfl L1.out H24.out HLZ.out (bys_one' _) ?_)
      refine bodyPost_ret (v := .agg (bys H).toArray) ?_ rfl ?_
      · exact ret_blk rfl _ _ (w.heap.size + 1) 30 _ rfl L1.out.setRow 32 5 tu24 H24.out
      · exact ⟨by rw [HH.out], below_setRow' LB.out (by omega) _⟩
end Go.Proofs.YtllncnnigjgadaaGreat

namespace Go.Proofs.YtllncnnigjgadaaGreat
open Go.RowKit

/-- Secret i. -/
def hsec (p seed : List UInt8) (i : Nat) : List UInt8 := hash (p ++ [by2 i, [255], seed].flatten)
/-- One step of a chain. -/
def hstep (p : List UInt8) (i j : Nat) (x : List UInt8) : List UInt8 := hash (p ++ [by2 i, [UInt8.ofNat j], x].flatten)
/-- A chain of n steps, from step a on. -/
def chn (p : List UInt8) (i a : Nat) : Nat → List UInt8 → List UInt8
  | 0, x => x
  | n + 1, x => hstep p i (a + n) (chn p i a n x)
/-- The randomizer. -/
def hrnd (p seed : List UInt8) : List UInt8 := hash (p ++ [[255, 253, 255], seed].flatten)
/-- The message hash. -/
def hmsg (p r text : List UInt8) : List UInt8 := hash (p ++ [[129, 129], r, text].flatten)
/-- The public hash of ends. -/
def hpub (p ends : List UInt8) : List UInt8 := hash (p ++ [[128, 128], ends].flatten)

theorem chn_length (p : List UInt8) (i a n : Nat) (x : List UInt8) (hx : x.length = 32) : (chn p i a n x).length = 32 := by
  cases n with
  | zero => exact hx
  | succ n => exact hash_length _
theorem chn_add (p : List UInt8) (i a n m : Nat) (x : List UInt8) : chn p i (a + n) m (chn p i a n x) = chn p i a (n + m) x := by
  induction m with
  | zero => rfl
  | succ m ih => rw [chn, ih, Nat.add_assoc]; rfl

/-- A key's cells. -/
def kcs (I : List UInt8) (q : Nat) (seed : List UInt8) (z : Int) : List Value := bys I ++ (.int .u32 (q : Int) :: (bys seed ++ [.int .i64 z]))
theorem kcs_length (I seed : List UInt8) (q : Nat) (z : Int) (hI : I.length = 16) (hs : seed.length = 32) : (kcs I q seed z).length = 50 := by simp [kcs, bys_length, hI, hs]
theorem kcs_q (I seed : List UInt8) (q : Nat) (z : Int) (hI : I.length = 16) : (kcs I q seed z)[16]? = some (.int .u32 (q : Int)) := by
  unfold kcs
  rw [List.getElem?_append_right (by rw [bys_length, hI]; omega), bys_length, hI]
  rfl
theorem kcs_z (I seed : List UInt8) (q : Nat) (z : Int) (hI : I.length = 16) (hs : seed.length = 32) : (kcs I q seed z)[49]? = some (.int .i64 z) := by
  unfold kcs
  rw [List.getElem?_append_right (by rw [bys_length, hI]; omega), bys_length, hI, List.getElem?_cons, if_neg (by omega), List.getElem?_append_right (by rw [bys_length, hs]; omega), bys_length, hs]
  rfl
theorem kcs_rangeI {w : World} {g : Nat} {I seed : List UInt8} {q : Nat} {z : Int} {t : TypeId} (h : Blk w g (kcs I q seed z) t) : w.rangeAt g 0 (bys I) := fun j v hv => by
  have hj : j < (bys I).length := (List.getElem?_eq_some_iff.1 hv).1
  rw [Nat.zero_add, h.cell]
  unfold kcs
  rw [List.getElem?_append_left hj]
  exact hv
theorem kcs_seed {w : World} {g B : Nat} {I seed : List UInt8} {q : Nat} {z : Int} {t : TypeId} (h : Blk w g (kcs I q seed z) t) (hI : I.length = 16) (hs : seed.length = 32) (hg : g < B) : Rd B w (.slice (some ⟨g, 17, none⟩) 32 32) seed := by
  refine ⟨some ⟨g, 17, none⟩, 32, by rw [hs], by omega, by unfold maxLen; omega, fun h => (by cases h), fun a ha => ?_⟩
  cases ha
  refine ⟨fun _ => hg, fun j hj => ?_⟩
  rw [Addr.add_mid, h.cell]
  unfold kcs
  rw [List.getElem?_append_right (by rw [bys_length, hI]; omega), bys_length, hI, List.getElem?_cons, if_neg (by omega), List.getElem?_append_left (by rw [bys_length]; omega), show 17 + j - 16 - 1 = j by omega, bys_get seed j hj]

/-- The slice reads as these bytes, in this world. -/
def RdN (l : List UInt8) : Value → World → Prop := fun v w => Rd w.heap.size w v l
theorem RdN.keep {l : List UInt8} {v : Value} {w w' : World} (h : RdN l v w) (hb : Below w.heap.size w w') : RdN l v w' := (Rd.below h hb).more hb.size
/-- The slice of byte slices reads as these rows, in this world. -/
def RdLN (n : Nat) (ls : List (List UInt8)) : Value → World → Prop := fun v w => ∃ A, v = .slice A n n ∧ RdL w.heap.size w A n ls
theorem RdL.below {B B' : Nat} {w w' : World} {A : Option Addr} {c : Nat} {ls : List (List UInt8)} (h : RdL B w A c ls) (hb : Below B w w') (hB : B ≤ B') : RdL B' w' A c ls := by
  obtain ⟨h1, h2, h3, h4⟩ := h
  refine ⟨h1, h2, h3, fun a ha r hr => ?_⟩
  obtain ⟨hab, vr, hc, hrd⟩ := h4 a ha r hr
  exact ⟨by omega, vr, by rw [hb.cell (by rw [addr_block]; exact hab)]; exact hc, (hrd.below hb).more hB⟩
theorem RdLN.keep {n : Nat} {ls : List (List UInt8)} {v : Value} {w w' : World} (h : RdLN n ls v w) (hb : Below w.heap.size w w') : RdLN n ls v w' := by
  obtain ⟨A, hv, h⟩ := h
  exact ⟨A, hv, h.below hb hb.size⟩
/-- Three slices in a new block. -/
theorem RdLN.three (e : TypeId) (w : World) (v0 v1 v2 : Value) (l0 l1 l2 : List UInt8) (h0 : RdN l0 v0 w) (h1 : RdN l1 v1 w) (h2 : RdN l2 v2 w) : RdLN 3 [l0, l1, l2] (.slice (some ⟨w.heap.size, 0, none⟩) 3 3) (w.alloc (.cells #[v0, v1, v2] e)) := by
  have hb : Below w.heap.size w (w.alloc (.cells #[v0, v1, v2] e)) := (Below.refl _ _).alloc (Nat.le_refl _) _
  refine ⟨some ⟨w.heap.size, 0, none⟩, rfl, Nat.le_refl _, by unfold maxLen; omega, fun h => (by cases h), fun a ha r hr => ?_⟩
  cases ha
  refine ⟨by simp, ?_⟩
  have : r = 0 ∨ r = 1 ∨ r = 2 := by simp at hr; omega
  rcases this with rfl | rfl | rfl
  · exact ⟨v0, by rw [Addr.add_mid, cell_of_row _ _ _ _ e (0, 0) (heap_alloc_new w _)]; simp, h0.keep hb⟩
  · exact ⟨v1, by rw [Addr.add_mid, cell_of_row _ _ _ _ e (0, 0) (heap_alloc_new w _)]; simp, h1.keep hb⟩
  · exact ⟨v2, by rw [Addr.add_mid, cell_of_row _ _ _ _ e (0, 0) (heap_alloc_new w _)]; simp, h2.keep hb⟩
/-- Two slices in a new block. -/
theorem RdLN.two (e : TypeId) (w : World) (v0 v1 : Value) (l0 l1 : List UInt8) (h0 : RdN l0 v0 w) (h1 : RdN l1 v1 w) : RdLN 2 [l0, l1] (.slice (some ⟨w.heap.size, 0, none⟩) 2 2) (w.alloc (.cells #[v0, v1] e)) := by
  have hb : Below w.heap.size w (w.alloc (.cells #[v0, v1] e)) := (Below.refl _ _).alloc (Nat.le_refl _) _
  refine ⟨some ⟨w.heap.size, 0, none⟩, rfl, Nat.le_refl _, by unfold maxLen; omega, fun h => (by cases h), fun a ha r hr => ?_⟩
  cases ha
  refine ⟨by simp, ?_⟩
  have : r = 0 ∨ r = 1 := by simp at hr; omega
  rcases this with rfl | rfl
  · exact ⟨v0, by rw [Addr.add_mid, cell_of_row _ _ _ _ e (0, 0) (heap_alloc_new w _)]; simp, h0.keep hb⟩
  · exact ⟨v1, by rw [Addr.add_mid, cell_of_row _ _ _ _ e (0, 0) (heap_alloc_new w _)]; simp, h1.keep hb⟩

section
variable {P : Program} {w : World} {ops : Array Oper} {rest : List Oper} {o : Oper} {a : Act} {Q : Exit → Act → World → Prop}
/-- The whole row (an array, a struct) is read. -/
theorem wpList_load_blkU (hg : o.guard = none) (t : TypeId) (x : Operand) (ho : o.op = .load t x) (g : Nat) (hx : a.eval x = .pointer (some ⟨g, 0, none⟩)) (cs : List Value) (u : TypeId) (hb : Blk w g cs u)
    (d : TypeDesc) (hu : P.underlying t = some d) (hd : d.isRow = true) (hi : (P.info? t).map (·.size) = some cs.length)
    (h : wpList P ops Q rest (a.put o.dst (.agg cs.toArray)) w) : wpList P ops Q (o :: rest) a w :=
  wpList_load_row hg t x ho g hx u cs.toArray (0, 0) d hb hu (by cases d <;> first | rfl | cases hd) (by simpa using hi) h
theorem run_load_blkU (t : TypeId) (x : Operand) (ho : o.op = .load t x) (g : Nat) (hx : a.eval x = .pointer (some ⟨g, 0, none⟩)) (cs : List Value) (u : TypeId) (hb : Blk w g cs u)
    (d : TypeDesc) (hu : P.underlying t = some d) (hd : d.isRow = true) (hi : (P.info? t).map (·.size) = some cs.length) : (execOp a.eval o).run P w = .ok (.value (.agg cs.toArray)) w := by
  unfold execOp
  simp only [ho, hx, Instr.loadAt, Instr.sureAddr, Sem.run_bind, Sem.run_pure, Result.andThen_ok, run_loadVar_row w g u t cs.toArray (0, 0) d hb hu (by cases d <;> first | rfl | cases hd) (by simpa using hi)]
end
theorem calls_args {P : Program} {f : FuncId} {args args2 : Array Value} {w : World} {R : Ending → World → Prop} (h : args = args2) (hc : Calls P f args2 w R) : Calls P f args w R := h ▸ hc
theorem s26 : (Tryz.prog.info? 95).map (·.size) = some 50 := by kernel_rfl
end Go.Proofs.YtllncnnigjgadaaGreat

namespace Go.Proofs.YtllncnnigjgadaaGreat
open Go.RowKit

set_option maxRecDepth 100000 in
set_option maxHeartbeats 1000000 in
theorem secret_any (I seed : List UInt8) (q i : Nat) (z : Int) (w : World) (hI : I.length = 16) (hs : seed.length = 32) (hq : q < 4294967296) (hi : i < 65536) : Calls Tryz.prog 90 #[.agg (kcs I q seed z).toArray, .int .i64 (i : Int)] w (Arr (bys (hsec (pre20 I q) seed i)) w) := by
  have HI := Lib.hid hI
  have HS := Lib.hid hs
  have H22 : Hid ((Tryz.prog.info? 29).map (·.size) = some (bys I).length) := by show _ = _; rw [bys_length, hI]; exact s22
  have H24 : Hid ((Tryz.prog.info? 30).map (·.size) = some (bys (hsec (pre20 I q) seed i)).length) := by show _ = _; rw [bys_length]; unfold hsec; rw [hash_length]; exact s24
  have HLZ : Hid (z32.length = (bys (hsec (pre20 I q) seed i)).length) := by show _ = _; rw [bys_length, z32_length]; unfold hsec; rw [hash_length]
  clear hI hs
  go_enter Tryz.func90, Tryz.ntmps90
  go_wp2_with (refine wpList_box_blk rfl 95 _ rfl (kcs I q seed z) rfl ?_)
  intro w1 a1 a2 a3
  have A1 := Lib.hid a1
  have A2 := Lib.hid a2
  have A3 := Lib.hid a3
  clear a1 a2 a3
  go_wp2_with (refine wpList_alloc_blk rfl 30 rfl _ z24 ?_)
  intro w2 a1 a2 a3
  rw [A2.out] at a1 a2 a3 ⊢
  obtain ⟨g0, hg0⟩ : ∃ g, w.heap.size = g := ⟨_, rfl⟩
  obtain ⟨g1, hg1⟩ : ∃ g, g0 + 1 = g := ⟨_, rfl⟩
  have G1 : Hid (Blk w2 g0 (kcs I q seed z) 95) := by rw [← hg0]; exact A1.out.below a3 (by omega)
  have G2 : Hid (Blk w2 g1 z32 30) := by rw [← hg1, ← hg0]; exact a1
  have GB : Hid (Below w.heap.size w w2) := A3.out.trans (a3.mono (by omega))
  have hgs : w.heap.size < g1 := by omega
  rw [hg0, hg1]
  have hg00 : g0 < w2.heap.size := by omega
  have hg2 : g1 < w2.heap.size := by omega
  have HG0 := Lib.hid hg0
  clear a1 a2 a3 A1 A2 A3 hg0 hg1
  have hg0 := hg00
  go_wp2
  refine wp_region_rely2 12 1 (fun x => ⟨#[.agg (kcs I q seed z).toArray, .int .i64 (i : Int), .pointer (some ⟨g0, 0, none⟩), undef, .pointer (some ⟨g1, 0, none⟩), x 0, x 1, x 2, x 3, x 4, x 5, x 6, x 7, x 8, x 9, x 10, x 11], []⟩) (fun j => ([eqV (.pointer (some ⟨g0, 0, none⟩)), eqV (.agg (bys I).toArray), eqV (.pointer (some ⟨g0, 16, none⟩)), eqV (.int .u32 (q : Int)), (eqV (.agg (bys (pre20 I q)).toArray)), eqV (.int .i64 (i : Int)), (RdN (by2 i)), (RdN [255]), eqV (.pointer (some ⟨g0, 17, none⟩)), eqV (.slice (some ⟨g0, 17, none⟩) 32 32), (RdLN 3 [by2 i, [255], seed]), (eqV (.agg (bys (hsec (pre20 I q) seed i)).toArray))] : List (Value → World → Prop)).getD j (fun _ _ => True)) rfl ⟨fun k => [_, _, _, _, _, _, _, _, _, _, _, _].getD k undef, rfl⟩ (by kernel_rfl) (by kernel_rfl) ?steps ?fin
  case steps =>
    refine StepsAt.val 0 (.pointer (some ⟨g0, 0, none⟩)) rfl (fun _ _ => rfl) rfl rfl (fun x w1 hb hd => ?_) ?_
    · first | (go_simp; done) | (go_simp; rfl)
    refine StepsAt.val 1 (.agg (bys I).toArray) rfl (fun _ _ => rfl) rfl rfl (fun x w1 hb hd => ?_) ?_
    · have h0 : x 0 = .pointer (some ⟨g0, 0, none⟩) := hd 0 (by kernel_rfl)
      exact run_load_mid 29 (.tmp 5) rfl g0 0 (by exact h0) (bys I) (kcs_rangeI (G1.out.below hb hg0)) 16 5 tu22 H22.out
    refine StepsAt.val 2 (.pointer (some ⟨g0, 16, none⟩)) rfl (fun _ _ => rfl) rfl rfl (fun x w1 hb hd => ?_) ?_
    · first | (go_simp; done) | (go_simp; rfl)
    refine StepsAt.val 3 (.int .u32 (q : Int)) rfl (fun _ _ => rfl) rfl rfl (fun x w1 hb hd => ?_) ?_
    · have h2 : x 2 = .pointer (some ⟨g0, 16, none⟩) := hd 2 (by kernel_rfl)
      have c := ((G1.out.below hb hg0).cell 16).trans (kcs_q I seed q z HI.out)
      rw [h2]
      first | (go_simp; done) | (go_simp; rfl)
    refine StepsAt.cons 4 (fun _ _ _ h hb => h) (fun _ _ => rfl) rfl rfl (fun x w1 hb hd K hK => ?_) ?_
    · have h1 : Hid (x 1 = .agg (bys I).toArray) := hd 1 (by kernel_rfl)
      have h3 : Hid (x 3 = .int .u32 (q : Int)) := hd 3 (by kernel_rfl)
      go_simp
      refine calls_args (args2 := #[.agg (bys I).toArray, .int .u32 (q : Int)]) (by rw [h1.out, h3.out]) ?_
      refine (prefixOf_any I q _ HI.out hq).mono ?_
      rintro e w2 ⟨rfl, hb2⟩
      exact hK.out _ _ hb2 rfl
    refine StepsAt.val 5 (.int .i64 (i : Int)) rfl (fun _ _ => rfl) rfl rfl (fun x w1 hb hd => ?_) ?_
    · first | (go_simp; done) | (go_simp; rfl)
    refine StepsAt.cons 6 (fun _ _ _ h hb => RdN.keep h hb) (fun _ _ => rfl) rfl rfl (fun x w1 hb hd K hK => ?_) ?_
    · have h5 : Hid (x 5 = .int .i64 (i : Int)) := hd 5 (by kernel_rfl)
      go_simp
      refine calls_args (args2 := #[.int .i64 (i : Int)]) (by rw [h5.out]) ?_
      refine (twoBytes_any i _ hi).mono ?_
      rintro e w2 ⟨v2, rfl, hown, hb2⟩
      exact hK.out _ _ hb2 hown.rd
    refine StepsAt.cons 7 (fun _ _ _ h hb => RdN.keep h hb) (fun _ _ => rfl) rfl rfl (fun x w1 hb hd K hK => ?_) ?_
    · go_simp
      exact hK.out _ _ ((Below.refl _ _).alloc (Nat.le_refl _) _) ((Rd.one 5 w1 255).more (by simp))
    refine StepsAt.val 8 (.pointer (some ⟨g0, 17, none⟩)) rfl (fun _ _ => rfl) rfl rfl (fun x w1 hb hd => ?_) ?_
    · first | (go_simp; done) | (go_simp; rfl)
    refine StepsAt.val 9 (.slice (some ⟨g0, 17, none⟩) 32 32) rfl (fun _ _ => rfl) rfl rfl (fun x w1 hb hd => ?_) ?_
    · have h8 : x 8 = .pointer (some ⟨g0, 17, none⟩) := hd 8 (by kernel_rfl)
      rw [h8]
      first | (go_simp; done) | (go_simp; rfl)
    refine StepsAt.cons 10 (fun _ _ _ h hb => RdLN.keep h hb) (fun _ _ => rfl) rfl rfl (fun x w1 hb hd K hK => ?_) ?_
    · have h6 : RdN (by2 i) (x 6) w1 := hd 6 (by kernel_rfl)
      have h7 : RdN [255] (x 7) w1 := hd 7 (by kernel_rfl)
      have h9 : Hid (x 9 = .slice (some ⟨g0, 17, none⟩) 32 32) := hd 9 (by kernel_rfl)
      obtain ⟨A6, c6, e6, _, _⟩ := Rd.shape h6
      obtain ⟨A7, c7, e7, _, _⟩ := Rd.shape h7
      have e9 := h9.out
      have key := hK.out (.slice (some ⟨w1.heap.size, 0, none⟩) 3 3) (w1.alloc (.cells #[x 6, x 7, x 9] 22)) ((Below.refl _ _).alloc (Nat.le_refl _) _) (RdLN.three 22 w1 _ _ _ _ _ _ h6 h7 (by rw [e9]; exact kcs_seed (G1.out.below hb hg0) HI.out HS.out (Nat.lt_of_lt_of_le hg0 hb.size)))
      simp only [Act.put, e6, e7, e9, List.setIfInBounds_toArray, List.set_cons_zero, List.set_cons_succ] at key
      go_simp
      exact key
    refine StepsAt.cons 11 (fun _ _ _ h hb => h) (fun _ _ => rfl) rfl rfl (fun x w1 hb hd K hK => ?_) ?_
    · have h4 : Hid (x 4 = .agg (bys (pre20 I q)).toArray) := hd 4 (by kernel_rfl)
      have h10 : RdLN 3 [by2 i, [255], seed] (x 10) w1 := hd 10 (by kernel_rfl)
      obtain ⟨A, e10, hl⟩ := h10
      have E10 := Lib.hid e10
      clear e10
      go_simp
      refine calls_args (args2 := #[.agg (bys (pre20 I q)).toArray, .slice A 3 3]) (by rw [h4.out, E10.out]) ?_
      refine (hash_any (pre20 I q) A 3 3 [by2 i, [255], seed] _ hl rfl (pre20_length I q HI.out) ?_ ?_).mono ?_
      · have := HS.out; simp [pre20_length I q HI.out, by2]; omega
      · have := HS.out; simp [by2]; omega
      rintro e w2 ⟨rfl, hb2⟩
      exact hK.out _ _ hb2 rfl
    exact StepsAt.done
  case fin =>
    intro x w1 hb hd
    have h11 : x 11 = .agg (bys (hsec (pre20 I q) seed i)).toArray := hd 11 (by omega)
    refine AnyTill.any (S := fun _ => True) (m := 13) _ _ _ _ ?_
    refine AnyTill.one (i := 12) (by kernel_rfl) rfl (by rfl) (fun K hK => ?_)
    refine wp_store_blk 30 (.tmp 4) (.tmp 16) rfl g1 (bys (hsec (pre20 I q) seed i)) z32 30 rfl h11 (G2.out.below hb hg2) H24.out HLZ.out (bys_one' _) ?_
    refine hK.out _ _ (.inr trivial) ?_
    clear hK K
    refine AnyTill.done (by kernel_rfl) ?_
    refine NoPanic.normal ?_
    simp only [Act.put]
    have L0 : Hid (Blk (w1.setRow g1 (bys (hsec (pre20 I q) seed i)).toArray) g1 (bys (hsec (pre20 I q) seed i)) 30) := (G2.out.below hb hg2).setRow
    have LB : Hid (Below w.heap.size w (w1.setRow g1 (bys (hsec (pre20 I q) seed i)).toArray)) := below_setRow' (GB.out.trans (hb.mono (by omega))) (by omega) _
    clear hd h11
    go_wp2
    refine bodyPost_ret (v := .agg (bys (hsec (pre20 I q) seed i)).toArray) ?_ rfl ?_
    · exact ret_blk rfl _ _ g1 30 _ rfl L0.out 32 5 tu24 H24.out
    · exact ⟨rfl, LB.out⟩
end Go.Proofs.YtllncnnigjgadaaGreat

namespace Go.Proofs.YtllncnnigjgadaaGreat
open Go.RowKit

set_option maxRecDepth 100000 in
set_option maxHeartbeats 1000000 in
theorem randomizer_any (I seed : List UInt8) (q : Nat) (z : Int) (w : World) (hI : I.length = 16) (hs : seed.length = 32) (hq : q < 4294967296) : Calls Tryz.prog 86 #[.agg (kcs I q seed z).toArray] w (Arr (bys (hrnd (pre20 I q) seed)) w) := by
  have HI := Lib.hid hI
  have HS := Lib.hid hs
  have H22 : Hid ((Tryz.prog.info? 29).map (·.size) = some (bys I).length) := by show _ = _; rw [bys_length, hI]; exact s22
  have H24 : Hid ((Tryz.prog.info? 30).map (·.size) = some (bys (hrnd (pre20 I q) seed)).length) := by show _ = _; rw [bys_length]; unfold hrnd; rw [hash_length]; exact s24
  have HLZ : Hid (z32.length = (bys (hrnd (pre20 I q) seed)).length) := by show _ = _; rw [bys_length, z32_length]; unfold hrnd; rw [hash_length]
  clear hI hs
  go_enter Tryz.func86, Tryz.ntmps86
  go_wp2_with (refine wpList_box_blk rfl 95 _ rfl (kcs I q seed z) rfl ?_)
  intro w1 a1 a2 a3
  have A1 := Lib.hid a1
  have A2 := Lib.hid a2
  have A3 := Lib.hid a3
  clear a1 a2 a3
  go_wp2_with (refine wpList_alloc_blk rfl 30 rfl _ z24 ?_)
  intro w2 a1 a2 a3
  rw [A2.out] at a1 a2 a3 ⊢
  obtain ⟨g0, hg0⟩ : ∃ g, w.heap.size = g := ⟨_, rfl⟩
  obtain ⟨gr, hg1⟩ : ∃ g, g0 + 1 = g := ⟨_, rfl⟩
  have G1 : Hid (Blk w2 g0 (kcs I q seed z) 95) := by rw [← hg0]; exact A1.out.below a3 (by omega)
  have GR : Hid (Blk w2 gr z32 30) := by rw [← hg1, ← hg0]; exact a1
  have GB : Hid (Below w.heap.size w w2) := A3.out.trans (a3.mono (by omega))
  have hgs : w.heap.size < gr := by omega
  rw [hg0, hg1]
  have hg00 : g0 < w2.heap.size := by omega
  have hgr : gr < w2.heap.size := by omega
  have HG0 := Lib.hid hg0
  clear a1 a2 a3 A1 A2 A3 hg0 hg1
  have hg0 := hg00
  go_wp2
  refine wp_region_rely2 10 1 (fun x => ⟨#[.agg (kcs I q seed z).toArray, .pointer (some ⟨g0, 0, none⟩), .pointer (some ⟨gr, 0, none⟩), x 0, x 1, x 2, x 3, x 4, x 5, x 6, x 7, x 8, x 9], []⟩) (fun jj => ([eqV (.pointer (some ⟨g0, 0, none⟩)), eqV (.agg (bys I).toArray), eqV (.pointer (some ⟨g0, 16, none⟩)), eqV (.int .u32 (q : Int)), (eqV (.agg (bys (pre20 I q)).toArray)), (RdN [255, 253, 255]), eqV (.pointer (some ⟨g0, 17, none⟩)), eqV (.slice (some ⟨g0, 17, none⟩) 32 32), (RdLN 2 [[255, 253, 255], seed]), (eqV (.agg (bys (hrnd (pre20 I q) seed)).toArray))] : List (Value → World → Prop)).getD jj (fun _ _ => True)) rfl ⟨fun kk => [_, _, _, _, _, _, _, _, _, _].getD kk undef, rfl⟩ (by kernel_rfl) (by kernel_rfl) ?steps ?fin
  case steps =>
    refine StepsAt.val 0 (.pointer (some ⟨g0, 0, none⟩)) rfl (fun _ _ => rfl) rfl rfl (fun x w1 hb hd => ?_) ?_
    · first | (go_simp; done) | (go_simp; rfl)
    refine StepsAt.val 1 (.agg (bys I).toArray) rfl (fun _ _ => rfl) rfl rfl (fun x w1 hb hd => ?_) ?_
    · have h0 : x 0 = .pointer (some ⟨g0, 0, none⟩) := hd 0 (by kernel_rfl)
      exact run_load_mid 29 (.tmp 3) rfl g0 0 (by exact h0) (bys I) (kcs_rangeI (G1.out.below hb hg0)) 16 5 tu22 H22.out
    refine StepsAt.val 2 (.pointer (some ⟨g0, 16, none⟩)) rfl (fun _ _ => rfl) rfl rfl (fun x w1 hb hd => ?_) ?_
    · first | (go_simp; done) | (go_simp; rfl)
    refine StepsAt.val 3 (.int .u32 (q : Int)) rfl (fun _ _ => rfl) rfl rfl (fun x w1 hb hd => ?_) ?_
    · have h2 : x 2 = .pointer (some ⟨g0, 16, none⟩) := hd 2 (by kernel_rfl)
      have c := ((G1.out.below hb hg0).cell 16).trans (kcs_q I seed q z HI.out)
      rw [h2]
      first | (go_simp; done) | (go_simp; rfl)
    refine StepsAt.cons 4 (fun _ _ _ h hb => h) (fun _ _ => rfl) rfl rfl (fun x w1 hb hd K hK => ?_) ?_
    · have h1 : Hid (x 1 = .agg (bys I).toArray) := hd 1 (by kernel_rfl)
      have h3 : Hid (x 3 = .int .u32 (q : Int)) := hd 3 (by kernel_rfl)
      go_simp
      refine calls_args (args2 := #[.agg (bys I).toArray, .int .u32 (q : Int)]) (by rw [h1.out, h3.out]) ?_
      refine (prefixOf_any I q _ HI.out hq).mono ?_
      rintro e w2 ⟨rfl, hb2⟩
      exact hK.out _ _ hb2 rfl
    refine StepsAt.cons 5 (fun _ _ _ h hb => RdN.keep h hb) (fun _ _ => rfl) rfl rfl (fun x w1 hb hd K hK => ?_) ?_
    · go_simp
      exact hK.out _ _ ((Below.refl _ _).alloc (Nat.le_refl _) _) (Own.lit 5 w1 _ 3 [255, 253, 255] rfl (by omega) (by simp [bys])).rd
    refine StepsAt.val 6 (.pointer (some ⟨g0, 17, none⟩)) rfl (fun _ _ => rfl) rfl rfl (fun x w1 hb hd => ?_) ?_
    · first | (go_simp; done) | (go_simp; rfl)
    refine StepsAt.val 7 (.slice (some ⟨g0, 17, none⟩) 32 32) rfl (fun _ _ => rfl) rfl rfl (fun x w1 hb hd => ?_) ?_
    · have h6 : x 6 = .pointer (some ⟨g0, 17, none⟩) := hd 6 (by kernel_rfl)
      rw [h6]
      first | (go_simp; done) | (go_simp; rfl)
    refine StepsAt.cons 8 (fun _ _ _ h hb => RdLN.keep h hb) (fun _ _ => rfl) rfl rfl (fun x w1 hb hd K hK => ?_) ?_
    · have h5 : RdN [255, 253, 255] (x 5) w1 := hd 5 (by kernel_rfl)
      have h7 : Hid (x 7 = .slice (some ⟨g0, 17, none⟩) 32 32) := hd 7 (by kernel_rfl)
      obtain ⟨A5, c5, e5, _, _⟩ := Rd.shape h5
      have e7 := h7.out
      have key := hK.out (.slice (some ⟨w1.heap.size, 0, none⟩) 2 2) (w1.alloc (.cells #[x 5, x 7] 22)) ((Below.refl _ _).alloc (Nat.le_refl _) _) (RdLN.two 22 w1 _ _ _ _ h5 (by rw [e7]; exact kcs_seed (G1.out.below hb hg0) HI.out HS.out (Nat.lt_of_lt_of_le hg0 hb.size)))
      simp only [Act.put, e5, e7, List.setIfInBounds_toArray, List.set_cons_zero, List.set_cons_succ] at key
      go_simp
      exact key
    refine StepsAt.cons 9 (fun _ _ _ h hb => h) (fun _ _ => rfl) rfl rfl (fun x w1 hb hd K hK => ?_) ?_
    · have h4 : Hid (x 4 = .agg (bys (pre20 I q)).toArray) := hd 4 (by kernel_rfl)
      have h8 : RdLN 2 [[255, 253, 255], seed] (x 8) w1 := hd 8 (by kernel_rfl)
      obtain ⟨A, e8, hl⟩ := h8
      have E8 := Lib.hid e8
      clear e8
      go_simp
      refine calls_args (args2 := #[.agg (bys (pre20 I q)).toArray, .slice A 2 2]) (by rw [h4.out, E8.out]) ?_
      refine (hash_any (pre20 I q) A 2 2 [[255, 253, 255], seed] _ hl rfl (pre20_length I q HI.out) ?_ ?_).mono ?_
      · have := HS.out; simp [pre20_length I q HI.out]; omega
      · have := HS.out; simp; omega
      rintro e w2 ⟨rfl, hb2⟩
      exact hK.out _ _ hb2 rfl
    exact StepsAt.done
  case fin =>
    intro x w1 hb hd
    have hr : x 9 = .agg (bys (hrnd (pre20 I q) seed)).toArray := hd 9 (by omega)
    refine AnyTill.any (S := fun _ => True) (m := 11) _ _ _ _ ?_
    refine AnyTill.one (i := 10) (by kernel_rfl) rfl (by rfl) (fun K hK => ?_)
    refine wp_store_blk 30 (.tmp 2) (.tmp 12) rfl gr (bys (hrnd (pre20 I q) seed)) z32 30 rfl hr (GR.out.below hb hgr) H24.out HLZ.out (bys_one' _) ?_
    refine hK.out _ _ (.inr trivial) ?_
    clear hK K
    refine AnyTill.done (by kernel_rfl) ?_
    refine NoPanic.normal ?_
    simp only [Act.put]
    have L0 : Hid (Blk (w1.setRow gr (bys (hrnd (pre20 I q) seed)).toArray) gr (bys (hrnd (pre20 I q) seed)) 30) := (GR.out.below hb hgr).setRow
    have LB : Hid (Below w.heap.size w (w1.setRow gr (bys (hrnd (pre20 I q) seed)).toArray)) := below_setRow' (GB.out.trans (hb.mono (by omega))) (by omega) _
    clear hd hr
    go_wp2
    refine bodyPost_ret (v := .agg (bys (hrnd (pre20 I q) seed)).toArray) ?_ rfl ?_
    · exact ret_blk rfl _ _ gr 30 _ rfl L0.out 32 5 tu24 H24.out
    · exact ⟨rfl, LB.out⟩

set_option maxRecDepth 100000 in
set_option maxHeartbeats 1000000 in
theorem messageHash_any (p r text : List UInt8) (tv : Value) (w : World) (hp : p.length = 20) (hr : r.length = 32) (ht : Rd w.heap.size w tv text) (hl : text.length ≤ 100000) : Calls Tryz.prog 57 #[.agg (bys p).toArray, .agg (bys r).toArray, tv] w (Arr (bys (hmsg p r text)) w) := by
  have HP := Lib.hid hp
  have HR := Lib.hid hr
  have HT := Lib.hid ht
  have H67 : Hid ((Tryz.prog.info? 102).map (·.size) = some (bys p).length) := by show _ = _; rw [bys_length, hp]; exact s67
  have H24 : Hid ((Tryz.prog.info? 30).map (·.size) = some (bys (hmsg p r text)).length) := by show _ = _; rw [bys_length]; unfold hmsg; rw [hash_length]; exact s24
  have HLZ : Hid (z32.length = (bys (hmsg p r text)).length) := by show _ = _; rw [bys_length, z32_length]; unfold hmsg; rw [hash_length]
  clear hp hr ht
  go_enter Tryz.func57, Tryz.ntmps57
  go_wp2_with (refine wpList_box_blk rfl 102 _ rfl (bys p) rfl ?_)
  intro w1 a1 a2 a3
  have A1 := Lib.hid a1
  have A2 := Lib.hid a2
  have A3 := Lib.hid a3
  clear a1 a2 a3
  go_wp2_with (refine wpList_box_blk rfl 30 _ rfl (bys r) rfl ?_)
  intro w2 a1 a2 a3
  rw [A2.out] at a1 a2 a3 ⊢
  have E0 : Hid (Blk w2 w.heap.size (bys p) 102) := A1.out.below a3 (by omega)
  have E1 : Hid (Blk w2 (w.heap.size + 1) (bys r) 30) := a1
  have EB : Hid (Below w.heap.size w w2) := A3.out.trans (a3.mono (by omega))
  have ES := Lib.hid a2
  clear a1 a2 a3 A1 A2 A3
  go_wp2_with (refine wpList_alloc_blk rfl 30 rfl _ z24 ?_)
  intro w3 a1 a2 a3
  rw [ES.out] at a1 a2 a3 ⊢
  obtain ⟨g0, hg0⟩ : ∃ g, w.heap.size = g := ⟨_, rfl⟩
  obtain ⟨g1, hg1⟩ : ∃ g, g0 + 1 = g := ⟨_, rfl⟩
  obtain ⟨gr, hg2⟩ : ∃ g, g1 + 1 = g := ⟨_, rfl⟩
  have G0 : Hid (Blk w3 g0 (bys p) 102) := by rw [← hg0]; exact E0.out.below a3 (by omega)
  have G1 : Hid (Blk w3 g1 (bys r) 30) := by rw [← hg1, ← hg0]; exact E1.out.below a3 (by omega)
  have GR : Hid (Blk w3 gr z32 30) := by rw [← hg2, ← hg1, ← hg0]; exact a1
  have GB : Hid (Below w.heap.size w w3) := EB.out.trans (a3.mono (by omega))
  have hwb : w.heap.size ≤ w3.heap.size := by omega
  have hgs : w.heap.size < gr := by omega
  rw [hg0, hg1, hg2]
  have hg00 : g0 < w3.heap.size := by omega
  have hg11 : g1 < w3.heap.size := by omega
  have hgr : gr < w3.heap.size := by omega
  clear a1 a2 a3 E0 E1 EB ES hg0 hg1 hg2
  have hg0 := hg00
  have hg1 := hg11
  go_wp2
  refine wp_region_rely2 6 1 (fun x => ⟨#[.agg (bys p).toArray, .agg (bys r).toArray, tv, .pointer (some ⟨g0, 0, none⟩), .pointer (some ⟨g1, 0, none⟩), undef, .pointer (some ⟨gr, 0, none⟩), x 0, x 1, x 2, x 3, x 4, x 5], []⟩) (fun jj => ([eqV (.agg (bys p).toArray), (RdN [129, 129]), eqV (.slice (some ⟨g1, 0, none⟩) 32 32), eqV (tv), (RdLN 3 [[129, 129], r, text]), (eqV (.agg (bys (hmsg p r text)).toArray))] : List (Value → World → Prop)).getD jj (fun _ _ => True)) rfl ⟨fun kk => [_, _, _, _, _, _].getD kk undef, rfl⟩ (by kernel_rfl) (by kernel_rfl) ?steps ?fin
  case steps =>
    refine StepsAt.val 0 (.agg (bys p).toArray) rfl (fun _ _ => rfl) rfl rfl (fun x w1 hb hd => ?_) ?_
    · exact run_load_blk 102 (.tmp 3) rfl g0 rfl (bys p) 102 (G0.out.below hb hg0) 20 5 tu67 H67.out
    refine StepsAt.cons 1 (fun _ _ _ h hb => RdN.keep h hb) (fun _ _ => rfl) rfl rfl (fun x w1 hb hd K hK => ?_) ?_
    · go_simp
      exact hK.out _ _ ((Below.refl _ _).alloc (Nat.le_refl _) _) (Own.lit 5 w1 _ 2 [129, 129] rfl (by omega) (by simp [bys])).rd
    refine StepsAt.val 2 (.slice (some ⟨g1, 0, none⟩) 32 32) rfl (fun _ _ => rfl) rfl rfl (fun x w1 hb hd => ?_) ?_
    · first | (go_simp; done) | (go_simp; rfl)
    refine StepsAt.val 3 (tv) rfl (fun _ _ => rfl) rfl rfl (fun x w1 hb hd => ?_) ?_
    · first | (go_simp; done) | (go_simp; rfl)
    refine StepsAt.cons 4 (fun _ _ _ h hb => RdLN.keep h hb) (fun _ _ => rfl) rfl rfl (fun x w1 hb hd K hK => ?_) ?_
    · have h1 : RdN [129, 129] (x 1) w1 := hd 1 (by kernel_rfl)
      have h2 : Hid (x 2 = .slice (some ⟨g1, 0, none⟩) 32 32) := hd 2 (by kernel_rfl)
      have h3 : Hid (x 3 = tv) := hd 3 (by kernel_rfl)
      obtain ⟨A1, c1, e1, _, _⟩ := Rd.shape h1
      have e2 := h2.out
      have e3 := h3.out
      have hrt : Rd w1.heap.size w1 tv text := (((HT.out.below GB.out).below (hb.mono hwb))).more (Nat.le_trans hwb hb.size)
      obtain ⟨A3, c3, e3', _, _⟩ := hrt.shape
      have key := hK.out (.slice (some ⟨w1.heap.size, 0, none⟩) 3 3) (w1.alloc (.cells #[x 1, x 2, x 3] 22)) ((Below.refl _ _).alloc (Nat.le_refl _) _) (RdLN.three 22 w1 _ _ _ _ _ _ h1 (by rw [e2]; exact Rd.blk 32 HR.out (G1.out.below hb hg1) (Nat.lt_of_lt_of_le hg1 hb.size) (by omega)) (by rw [e3]; exact hrt))
      simp only [Act.put, e1, e2, e3, e3', List.setIfInBounds_toArray, List.set_cons_zero, List.set_cons_succ] at key
      go_simp
      exact key
    refine StepsAt.cons 5 (fun _ _ _ h hb => h) (fun _ _ => rfl) rfl rfl (fun x w1 hb hd K hK => ?_) ?_
    · have h0 : Hid (x 0 = .agg (bys p).toArray) := hd 0 (by kernel_rfl)
      have h4 : RdLN 3 [[129, 129], r, text] (x 4) w1 := hd 4 (by kernel_rfl)
      obtain ⟨A, e4, hl⟩ := h4
      have E4 := Lib.hid e4
      clear e4
      go_simp
      refine calls_args (args2 := #[.agg (bys p).toArray, .slice A 3 3]) (by rw [h0.out, E4.out]) ?_
      refine (hash_any p A 3 3 [[129, 129], r, text] _ hl rfl HP.out ?_ ?_).mono ?_
      · have := HR.out; have := HP.out; simp; omega
      · have := HR.out; simp; omega
      rintro e w2 ⟨rfl, hb2⟩
      exact hK.out _ _ hb2 rfl
    exact StepsAt.done
  case fin =>
    intro x w1 hb hd
    have hr : x 5 = .agg (bys (hmsg p r text)).toArray := hd 5 (by omega)
    refine AnyTill.any (S := fun _ => True) (m := 7) _ _ _ _ ?_
    refine AnyTill.one (i := 6) (by kernel_rfl) rfl (by rfl) (fun K hK => ?_)
    refine wp_store_blk 30 (.tmp 6) (.tmp 12) rfl gr (bys (hmsg p r text)) z32 30 rfl hr (GR.out.below hb hgr) H24.out HLZ.out (bys_one' _) ?_
    refine hK.out _ _ (.inr trivial) ?_
    clear hK K
    refine AnyTill.done (by kernel_rfl) ?_
    refine NoPanic.normal ?_
    simp only [Act.put]
    have L0 : Hid (Blk (w1.setRow gr (bys (hmsg p r text)).toArray) gr (bys (hmsg p r text)) 30) := (GR.out.below hb hgr).setRow
    have LB : Hid (Below w.heap.size w (w1.setRow gr (bys (hmsg p r text)).toArray)) := below_setRow' (GB.out.trans (hb.mono (by omega))) (by omega) _
    clear hd hr
    go_wp2
    refine bodyPost_ret (v := .agg (bys (hmsg p r text)).toArray) ?_ rfl ?_
    · exact ret_blk rfl _ _ gr 30 _ rfl L0.out 32 5 tu24 H24.out
    · exact ⟨rfl, LB.out⟩

set_option maxRecDepth 100000 in
set_option maxHeartbeats 1000000 in
theorem publicHash_any (p ends : List UInt8) (tv : Value) (w : World) (hp : p.length = 20) (ht : Rd w.heap.size w tv ends) (hl : ends.length ≤ 100000) : Calls Tryz.prog 60 #[.agg (bys p).toArray, tv] w (Arr (bys (hpub p ends)) w) := by
  have HP := Lib.hid hp
  have HT := Lib.hid ht
  obtain ⟨A0, c0, rfl, hc0, hm0⟩ := ht.shape
  unfold maxLen at hm0
  have H67 : Hid ((Tryz.prog.info? 102).map (·.size) = some (bys p).length) := by show _ = _; rw [bys_length, hp]; exact s67
  have H24 : Hid ((Tryz.prog.info? 30).map (·.size) = some (bys (hpub p ends)).length) := by show _ = _; rw [bys_length]; unfold hpub; rw [hash_length]; exact s24
  have HLZ : Hid (z32.length = (bys (hpub p ends)).length) := by show _ = _; rw [bys_length, z32_length]; unfold hpub; rw [hash_length]
  clear hp ht
  go_enter Tryz.func60, Tryz.ntmps60
  go_wp2_with (refine wpList_box_blk rfl 102 _ rfl (bys p) rfl ?_)
  intro w1 a1 a2 a3
  have A1 := Lib.hid a1
  have A2 := Lib.hid a2
  have A3 := Lib.hid a3
  clear a1 a2 a3
  go_wp2_with (refine wpList_alloc_blk rfl 30 rfl _ z24 ?_)
  intro w2 a1 a2 a3
  rw [A2.out] at a1 a2 a3 ⊢
  have G0 : Hid (Blk w2 w.heap.size (bys p) 102) := A1.out.below a3 (by omega)
  have G1 : Hid (Blk w2 (w.heap.size + 1) z32 30) := a1
  have GB : Hid (Below w.heap.size w w2) := A3.out.trans (a3.mono (by omega))
  have HS2 := Lib.hid a2
  clear a1 a2 a3 A1 A2 A3
  go_wp2_with (refine wpList_load_blk rfl 102 _ rfl w.heap.size rfl (bys p) 102 G0.out 20 5 tu67 H67.out ?_)
  have ht2 : RdN ends (.slice A0 ends.length c0) w2 := (HT.out.below GB.out).more GB.out.size
  have hR : RdLN 2 [[128, 128], ends] (.slice (some ⟨w2.heap.size + 1, 0, none⟩) 2 2) ((w2.alloc (.cells #[.int .u8 128, .int .u8 128] 5)).alloc (.cells #[.slice (some ⟨w2.heap.size, 0, none⟩) 2 2, .slice A0 ends.length c0] 22)) := by
    have h := RdLN.two 22 (w2.alloc (.cells #[.int .u8 128, .int .u8 128] 5)) (.slice (some ⟨w2.heap.size, 0, none⟩) 2 2) (.slice A0 ends.length c0) [128, 128] ends (Own.lit 5 w2 _ 2 [128, 128] rfl (by omega) (by simp [bys])).rd (ht2.keep ((Below.refl _ _).alloc (Nat.le_refl _) _))
    simpa using h
  have hb3 : Below w2.heap.size w2 ((w2.alloc (.cells #[.int .u8 128, .int .u8 128] 5)).alloc (.cells #[.slice (some ⟨w2.heap.size, 0, none⟩) 2 2, .slice A0 ends.length c0] 22)) := ((Below.refl _ _).alloc (Nat.le_refl _) _).alloc (by simp) _
  generalize (w2.alloc (.cells #[.int .u8 128, .int .u8 128] 5)).alloc (.cells #[.slice (some ⟨w2.heap.size, 0, none⟩) 2 2, .slice A0 ends.length c0] 22) = w3 at hR hb3 ⊢
  obtain ⟨A, hv, hl2⟩ := hR
  injection hv with hA
  rw [← hA] at hl2
  refine (hash_any p _ 2 2 [[128, 128], ends] _ hl2 rfl HP.out ?_ ?_).mono ?_
  · have := HP.out; simp; omega
  · simp; omega
  rintro e w4 ⟨rfl, hb4⟩
  rw [show hash (p ++ [[128, 128], ends].flatten) = hpub p ends from rfl]
  have hs2 := HS2.out
  have hs3 := hb3.size
  have L1 : Hid (Blk w4 (w.heap.size + 1) z32 30) := (G1.out.below hb3 (by omega)).below hb4 (by omega)
  have LB : Hid (Below w.heap.size w w4) := (GB.out.trans (hb3.mono (by omega))).trans (hb4.mono (by omega))
  clear hb3 hb4 hl2 hA ht2 G0 G1 GB hs2 hs3
  go_wp2_with (refine wpList_store_blk rfl 30 _ _ rfl (w.heap.size + 1) (bys (hpub p ends)) z32 30 rfl rfl L1.out H24.out HLZ.out (bys_one' _) ?_)
  refine bodyPost_ret (v := .agg (bys (hpub p ends)).toArray) ?_ rfl ?_
  · exact ret_blk rfl _ _ (w.heap.size + 1) 30 _ rfl L1.out.setRow 32 5 tu24 H24.out
  · exact ⟨rfl, below_setRow' LB.out (by omega) _⟩
end Go.Proofs.YtllncnnigjgadaaGreat

namespace Go.Proofs.YtllncnnigjgadaaGreat
open Go.RowKit

theorem wrap_u8 (j : Nat) (h : j < 256) : IntKind.u8.wrap (j : Int) = j := by
  simp [IntKind.wrap, IntKind.bits, IntKind.signed]
  omega
/-- What the loop of chain keeps. -/
def ChainAt (w : World) (p : List UInt8) (g0 g1 g2 : Nat) (y : List UInt8) (wr : World) : Prop := Blk wr g0 (bys p) 102 ∧ Blk wr g1 (bys y) 30 ∧ Blk wr g2 z32 30 ∧ Below w.heap.size w wr ∧ y.length = 32

set_option maxRecDepth 100000 in
set_option maxHeartbeats 1000000 in
theorem chain_any (p x0 : List UInt8) (i a n : Nat) (w : World) (hp : p.length = 20) (hx : x0.length = 32) (hi : i < 65536) (hn : a + n ≤ 255) : Calls Tryz.prog 59 #[.agg (bys p).toArray, .int .i64 (i : Int), .int .i64 (a : Int), .int .i64 ((a + n : Nat) : Int), .agg (bys x0).toArray] w (Arr (bys (chn p i a n x0)) w) := by
  have HP := Lib.hid hp
  have HX := Lib.hid hx
  have H67 : Hid ((Tryz.prog.info? 102).map (·.size) = some (bys p).length) := by show _ = _; rw [bys_length, hp]; exact s67
  obtain ⟨T, hT⟩ : ∃ T, a + n = T := ⟨_, rfl⟩
  rw [hT] at hn ⊢
  clear hp hx
  go_enter Tryz.func59, Tryz.ntmps59
  go_wp2_with (refine wpList_box_blk rfl 102 _ rfl (bys p) rfl ?_)
  intro w1 a1 a2 a3
  have A1 := Lib.hid a1
  have A2 := Lib.hid a2
  have A3 := Lib.hid a3
  clear a1 a2 a3
  go_wp2_with (refine wpList_box_blk rfl 30 _ rfl (bys x0) rfl ?_)
  intro w2 a1 a2 a3
  rw [A2.out] at a1 a2 a3 ⊢
  have E0 : Hid (Blk w2 w.heap.size (bys p) 102) := A1.out.below a3 (by omega)
  have E1 : Hid (Blk w2 (w.heap.size + 1) (bys x0) 30) := a1
  have EB : Hid (Below w.heap.size w w2) := A3.out.trans (a3.mono (by omega))
  have ES := Lib.hid a2
  clear a1 a2 a3 A1 A2 A3
  go_wp2_with (refine wpList_alloc_blk rfl 30 rfl _ z24 ?_)
  intro w3 a1 a2 a3
  rw [ES.out] at a1 a2 a3 ⊢
  obtain ⟨g0, hg0⟩ : ∃ g, w.heap.size = g := ⟨_, rfl⟩
  obtain ⟨g1, hg1⟩ : ∃ g, g0 + 1 = g := ⟨_, rfl⟩
  obtain ⟨g2, hg2⟩ : ∃ g, g1 + 1 = g := ⟨_, rfl⟩
  have K0 : Hid (ChainAt w p g0 g1 g2 (chn p i a 0 x0) w3) := by
    refine ⟨?_, ?_, ?_, EB.out.trans (a3.mono (by omega)), HX.out⟩
    · rw [← hg0]; exact E0.out.below a3 (by omega)
    · rw [← hg1, ← hg0]; exact E1.out.below a3 (by omega)
    · rw [← hg2, ← hg1, ← hg0]; exact a1
  have hwg : w.heap.size ≤ g0 := by omega
  have hg01 : g0 < g1 := by omega
  have hg12 : g1 < g2 := by omega
  rw [hg0, hg1, hg2]
  clear a1 a2 a3 E0 E1 EB ES hg0 hg1 hg2
  go_wp2
  go_loopw [11] (fun v wr => ∃ k : Nat, a + k ≤ T ∧ v = .int .i64 ((a + k : Nat) : Int) ∧ Hid (ChainAt w p g0 g1 g2 (chn p i a k x0) wr)) (fun v _ => T - (intOf v).toNat)
  case atStart => exact ⟨0, by omega, rfl, K0⟩
  case round =>
    clear K0
    obtain ⟨k, hk, rfl, KK⟩ := hrel
    by_cases hk2 : a + k < T
    · obtain ⟨j, hj⟩ : ∃ j, a + k = j := ⟨_, rfl⟩
      have hy : chn p i a (k + 1) x0 = hstep p i j (chn p i a k x0) := by rw [← hj]; rfl
      obtain ⟨y, hY⟩ : ∃ y, chn p i a k x0 = y := ⟨_, rfl⟩
      rw [hY] at KK hy
      rw [hj] at hk2 ⊢
      have HY := Lib.hid hy
      clear hY hy
      have zi : (j : Int) < (T : Int) := by omega
      have zj : (j : Int) < 256 := by omega
      have z0 : (0 : Int) ≤ (j : Int) := by omega
      have hw0 : g0 < wr.heap.size := KK.out.1.lt
      have hw1 : g1 < wr.heap.size := KK.out.2.1.lt
      have hw2 : g2 < wr.heap.size := KK.out.2.2.1.lt
      have H24 : Hid ((Tryz.prog.info? 30).map (·.size) = some (bys (hstep p i j y)).length) := by show _ = _; rw [bys_length]; unfold hstep; rw [hash_length]; exact s24
      have HLZ : Hid ((bys y).length = (bys (hstep p i j y)).length) := by show _ = _; rw [bys_length, bys_length, KK.out.2.2.2.2]; unfold hstep; rw [hash_length]
      go_wp2
      refine wp_region_rely2 9 1 (fun x => ⟨#[.agg (bys p).toArray, .int .i64 (i : Int), .int .i64 (a : Int), .int .i64 (T : Int), .agg (bys x0).toArray, .pointer (some ⟨g0, 0, none⟩), undef, undef, undef, .pointer (some ⟨g1, 0, none⟩), .pointer (some ⟨g2, 0, none⟩), .int .i64 (j : Int), .int .i64 (a : Int), .int .i64 (j : Int), .int .i64 (T : Int), .bool true, u16, u17, x 0, x 1, x 2, x 3, x 4, x 5, x 6, x 7, x 8, undef], []⟩) (fun jj => ([eqV (.agg (bys p).toArray), eqV (.int .i64 (i : Int)), (RdN (by2 i)), eqV (.int .i64 (j : Int)), eqV (.int .u8 (j : Int)), (RdN [UInt8.ofNat j]), eqV (.slice (some ⟨g1, 0, none⟩) 32 32), (RdLN 3 [by2 i, [UInt8.ofNat j], y]), (eqV (.agg (bys (hstep p i j y)).toArray))] : List (Value → World → Prop)).getD jj (fun _ _ => True)) rfl ⟨fun kk => [_, _, _, _, _, _, _, _, _].getD kk undef, rfl⟩ (by kernel_rfl) (by kernel_rfl) ?steps ?fin
      case steps =>
        refine StepsAt.val 0 (.agg (bys p).toArray) rfl (fun _ _ => rfl) rfl rfl (fun x w1 hb hd => ?_) ?_
        · exact run_load_blk 102 (.tmp 5) rfl g0 rfl (bys p) 102 (KK.out.1.below hb hw0) 20 5 tu67 H67.out
        refine StepsAt.val 1 (.int .i64 (i : Int)) rfl (fun _ _ => rfl) rfl rfl (fun x w1 hb hd => ?_) ?_
        · first | (go_simp; done) | (go_simp; rfl)
        refine StepsAt.cons 2 (fun _ _ _ h hb => RdN.keep h hb) (fun _ _ => rfl) rfl rfl (fun x w1 hb hd K hK => ?_) ?_
        · have h1 : Hid (x 1 = .int .i64 (i : Int)) := hd 1 (by kernel_rfl)
          go_simp
          refine calls_args (args2 := #[.int .i64 (i : Int)]) (by rw [h1.out]) ?_
          refine (twoBytes_any i _ hi).mono ?_
          rintro e w2 ⟨v2, rfl, hown, hb2⟩
          exact hK.out _ _ hb2 hown.rd
        refine StepsAt.val 3 (.int .i64 (j : Int)) rfl (fun _ _ => rfl) rfl rfl (fun x w1 hb hd => ?_) ?_
        · first | (go_simp; done) | (go_simp; rfl)
        refine StepsAt.val 4 (.int .u8 (j : Int)) rfl (fun _ _ => rfl) rfl rfl (fun x w1 hb hd => ?_) ?_
        · have h3 : x 3 = .int .i64 (j : Int) := hd 3 (by kernel_rfl)
          rw [h3]
          go_simp
          exact wrap_u8 j (by omega)
        refine StepsAt.cons 5 (fun _ _ _ h hb => RdN.keep h hb) (fun _ _ => rfl) rfl rfl (fun x w1 hb hd K hK => ?_) ?_
        · have h4 : Hid (x 4 = .int .u8 (j : Int)) := hd 4 (by kernel_rfl)
          have e4 := h4.out
          have key := hK.out (.slice (some ⟨w1.heap.size, 0, none⟩) 1 1) (w1.alloc (.cells #[x 4] 5)) ((Below.refl _ _).alloc (Nat.le_refl _) _) (Own.lit 5 w1 _ 1 [UInt8.ofNat j] rfl (by omega) (by rw [e4]; simp [bys]; omega)).rd
          simp only [Act.put, e4, List.setIfInBounds_toArray, List.set_cons_zero, List.set_cons_succ] at key
          go_simp
          exact key
        refine StepsAt.val 6 (.slice (some ⟨g1, 0, none⟩) 32 32) rfl (fun _ _ => rfl) rfl rfl (fun x w1 hb hd => ?_) ?_
        · first | (go_simp; done) | (go_simp; rfl)
        refine StepsAt.cons 7 (fun _ _ _ h hb => RdLN.keep h hb) (fun _ _ => rfl) rfl rfl (fun x w1 hb hd K hK => ?_) ?_
        · have h2 : RdN (by2 i) (x 2) w1 := hd 2 (by kernel_rfl)
          have h5 : RdN [UInt8.ofNat j] (x 5) w1 := hd 5 (by kernel_rfl)
          have h6 : Hid (x 6 = .slice (some ⟨g1, 0, none⟩) 32 32) := hd 6 (by kernel_rfl)
          obtain ⟨A2, c2, e2, _, _⟩ := Rd.shape h2
          obtain ⟨A5, c5, e5, _, _⟩ := Rd.shape h5
          have e6 := h6.out
          have key := hK.out (.slice (some ⟨w1.heap.size, 0, none⟩) 3 3) (w1.alloc (.cells #[x 2, x 5, x 6] 22)) ((Below.refl _ _).alloc (Nat.le_refl _) _) (RdLN.three 22 w1 _ _ _ _ _ _ h2 h5 (by rw [e6]; exact Rd.blk 32 KK.out.2.2.2.2 (KK.out.2.1.below hb hw1) (Nat.lt_of_lt_of_le hw1 hb.size) (by omega)))
          simp only [Act.put, e2, e5, e6, List.setIfInBounds_toArray, List.set_cons_zero, List.set_cons_succ] at key
          go_simp
          exact key
        refine StepsAt.cons 8 (fun _ _ _ h hb => h) (fun _ _ => rfl) rfl rfl (fun x w1 hb hd K hK => ?_) ?_
        · have h0 : Hid (x 0 = .agg (bys p).toArray) := hd 0 (by kernel_rfl)
          have h7 : RdLN 3 [by2 i, [UInt8.ofNat j], y] (x 7) w1 := hd 7 (by kernel_rfl)
          obtain ⟨A, e7, hl⟩ := h7
          have E7 := Lib.hid e7
          clear e7
          go_simp
          refine calls_args (args2 := #[.agg (bys p).toArray, .slice A 3 3]) (by rw [h0.out, E7.out]) ?_
          refine (hash_any p A 3 3 [by2 i, [UInt8.ofNat j], y] _ hl rfl HP.out ?_ ?_).mono ?_
          · have := KK.out.2.2.2.2; have := HP.out; simp [by2]; omega
          · have := KK.out.2.2.2.2; simp [by2]; omega
          rintro e w2 ⟨rfl, hb2⟩
          exact hK.out _ _ hb2 rfl
        exact StepsAt.done
      case fin =>
        intro x w1 hb hd
        have hr : x 8 = .agg (bys (hstep p i j y)).toArray := hd 8 (by omega)
        refine AnyTill.any (S := fun _ => True) (m := 10) _ _ _ _ ?_
        refine AnyTill.one (i := 9) (by kernel_rfl) rfl (by rfl) (fun K hK => ?_)
        refine wp_store_blk 30 (.tmp 9) (.tmp 26) rfl g1 (bys (hstep p i j y)) (bys y) 30 rfl hr (KK.out.2.1.below hb hw1) H24.out HLZ.out (bys_one' _) ?_
        refine hK.out _ _ (.inr trivial) ?_
        clear hK K
        refine AnyTill.done (by kernel_rfl) ?_
        refine NoPanic.normal ?_
        simp only [Act.put]
        have K1 : Hid (ChainAt w p g0 g1 g2 (chn p i a (k + 1) x0) (w1.setRow g1 (bys (hstep p i j y)).toArray)) := by
          rw [HY.out]
          exact ⟨(KK.out.1.below hb hw0).setRowOther (by omega), (KK.out.2.1.below hb hw1).setRow, (KK.out.2.2.1.below hb hw2).setRowOther (by omega), below_setRow' (KK.out.2.2.2.1.trans (hb.mono KK.out.2.2.2.1.size)) (by omega) _, by unfold hstep; rw [hash_length]⟩
        clear hd hr KK
        go_wp2
        go_roundw
        case rel => exact ⟨k + 1, by omega, by go_num, K1⟩
        case measure => simp [intOf]; omega
    · have hkT : a + k = T := by omega
      have hkn : k = n := by omega
      rw [hkT]
      rw [hkn] at KK
      clear hkn
      have H24 : Hid ((Tryz.prog.info? 30).map (·.size) = some (bys (chn p i a n x0)).length) := by show _ = _; rw [bys_length, KK.out.2.2.2.2]; exact s24
      have HLZ : Hid (z32.length = (bys (chn p i a n x0)).length) := by show _ = _; rw [bys_length, KK.out.2.2.2.2, z32_length]
      have HBL : Hid (Blk wr g1 (bys (chn p i a n x0)) 30) := KK.out.2.1
      have HBR : Hid (Blk wr g2 z32 30) := KK.out.2.2.1
      have HBB : Hid (Below w.heap.size w wr) := KK.out.2.2.2.1
      clear KK
      go_wp2_with (first | (refine wpList_load_blk rfl 30 _ rfl g1 rfl (bys (chn p i a n x0)) 30 HBL.out 32 5 tu24 H24.out ?_) | (refine wpList_store_blk rfl 30 _ _ rfl g2 (bys (chn p i a n x0)) z32 30 rfl rfl HBR.out H24.out HLZ.out (bys_one' _) ?_))
      refine bodyPost_ret (v := .agg (bys (chn p i a n x0)).toArray) ?_ rfl ?_
      · exact ret_blk rfl _ _ g2 30 _ rfl HBR.out.setRow 32 5 tu24 H24.out
      · exact ⟨rfl, below_setRow' HBB.out (by omega) _⟩
end Go.Proofs.YtllncnnigjgadaaGreat

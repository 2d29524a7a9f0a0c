/-
  Package lms: partsIn, the parts of a signature, for every bytes.
-/
import Derived.Test.YtnemkefmlffigaaL11
import Derived.Test.YtnemkefmlffigaaRel4
namespace Go.Proofs.Ytnemkefmlffigaa
open Go.RowKit

def pts0 : List Value := [.int .u32 0, .slice none 0 0, .slice none 0 0]
theorem zi86 : (Try.prog.info? 86).map (·.zero) = some (some (.agg pts0.toArray)) := by kernel_rfl
theorem s86 : (Try.prog.info? 86).map (·.size) = some 3 := by kernel_rfl
theorem row86 : ∃ d, Try.prog.underlying 86 = some d ∧ d.isRow = true := row_of (by kernel_rfl)
theorem pts0_one : pts0.toArray.all (·.oneCell') = true := by simp [pts0, Value.oneCell']

set_option maxRecDepth 100000 in
set_option maxHeartbeats 400000 in
theorem partsIn_len (v : Value) (s : List UInt8) (k h : Nat) (w : World) (hr : Rd w.heap.size w v s) (hk : Wd k) (hh : Ht h) (hl : s.length ≠ llng k h) : Calls Try.prog 45 #[v, .agg (shl k h).toArray] w (TwoD (.agg pts0.toArray) (.int .i64 3) w) := by
  obtain ⟨A, c, rfl, hc, hm⟩ := hr.shape
  unfold maxLen at hm
  obtain ⟨n, hn⟩ : ∃ n, s.length = n := ⟨_, rfl⟩
  obtain ⟨N, hN⟩ : ∃ N, llng k h = N := ⟨_, rfl⟩
  rw [hn] at hl hc ⊢
  rw [hN] at hl
  have HNE := Lib.hid hN
  have HK := Lib.hid hk
  have HH := Lib.hid hh
  have z : ((n : Int) != (N : Int)) = true := by simp; omega
  obtain ⟨d86, hu86, hd86⟩ := row86
  have HU := Lib.hid hu86
  have HD := Lib.hid hd86
  obtain ⟨d74, hu74, hd74⟩ := row74
  have HU7 := Lib.hid hu74
  have HD7 := Lib.hid hd74
  clear hr hn hN hk hh hu86 hd86 hu74 hd74
  go_enter Try.func45, Try.ntmps45
  go_wp2_with (refine wpList_box_blk rfl 74 _ rfl (shl k h) rfl ?_)
  intro w1 a1 a2 a3
  have A1 := Lib.hid a1
  have A2 := Lib.hid a2
  have A3 := Lib.hid a3
  clear a1 a2 a3
  go_wp2_with (refine wpList_alloc_blk rfl 86 rfl _ zi86 ?_)
  intro w2 a1 a2 a3
  obtain ⟨g3, hg3⟩ : ∃ g, w.heap.size = g := ⟨_, rfl⟩
  obtain ⟨g4, hg4⟩ : ∃ g, w1.heap.size = g := ⟨_, rfl⟩
  have hs1 := A2.out
  have G3 : Hid (Blk w2 g3 (shl k h) 74) := by rw [← hg3]; exact A1.out.below a3 (by omega)
  have G4 : Hid (Blk w2 g4 pts0 86) := by rw [← hg4]; exact a1
  have GB : Hid (Below w.heap.size w w2) := A3.out.trans (a3.mono (by omega))
  have hw4 : w.heap.size ≤ g4 := by omega
  rw [hg3, hg4]
  clear a1 a2 a3 A1 A2 A3 hs1 hg3 hg4
  go_wp2
  refine wp_scope_goto 0 rfl ?_
  go_wp2_with (refine wpList_alloc_blk rfl 86 rfl _ zi86 ?_)
  intro w3 a1 a2 a3
  have E3 : Hid (Blk w3 g3 (shl k h) 74) := G3.out.below a3 G3.out.lt
  have E4 : Hid (Blk w3 g4 pts0 86) := G4.out.below a3 G4.out.lt
  have EB : Hid (Below w.heap.size w w3) := GB.out.trans (a3.mono GB.out.size)
  clear a1 a2 a3 G3 G4 GB
  go_wp2_with (refine wpList_load_blkU rfl 74 _ rfl g3 rfl (shl k h) 74 E3.out d74 HU7.out HD7.out s74 ?_)
  refine (longL_any k h _ HK.out HH.out).mono ?_
  rintro e w4 ⟨rfl, hb⟩
  rw [HNE.out]
  have F4 : Hid (Blk w4 g4 pts0 86) := E4.out.below hb E4.out.lt
  have FB : Hid (Below w.heap.size w w4) := EB.out.trans (hb.mono EB.out.size)
  clear hb E3 E4 EB
  go_wp2
  refine wp_goto ⟨rfl, ?_⟩
  go_wp2_with (first | (refine wpList_buildTo rfl 86 _ rfl (some 53) rfl pts0.toArray (by kernel_rfl) ?_) | (refine wpList_store_blk rfl 86 _ _ rfl g4 pts0 pts0 86 rfl rfl F4.out s86 rfl pts0_one ?_))
  rw [Exit.noGoto_ret]
  refine bodyPost_ret (v := .tuple #[.agg pts0.toArray, .int .i64 3]) ?_ rfl ?_
  · exact ret_blk2U rfl _ _ g4 86 pts0 _ rfl rfl F4.out.setRow d86 HU.out HD.out s86
  · exact ⟨rfl, below_setRow' FB.out hw4 _⟩

/-- The cells of a signature's parts. -/
def ptl (q : Nat) (o b : Value) : List Value := [.int .u32 (q : Int), o, b]
theorem ptl_one (q n m c d : Nat) (A B : Option Addr) : (ptl q (.slice A n c) (.slice B m d)).toArray.all (·.oneCell') = true := by simp [ptl, Value.oneCell']

set_option maxRecDepth 100000 in
set_option maxHeartbeats 2000000 in
theorem partsIn_A (v : Value) (s : List UInt8) (k h : Nat) (w : World) (hr : Rd w.heap.size w v s) (hk : Wd k) (hh : Ht h) (hl : s.length = llng k h) (h1 : wd ((s.drop 4).take (lng k)) 0 ≠ typ k) : Calls Try.prog 45 #[v, .agg (shl k h).toArray] w (TwoD (.agg pts0.toArray) (.int .i64 3) w) := by
  have HR := Lib.hid hr
  have HSL := Lib.hid hl
  have hL9 : lng k ≤ 10000 := by have := mny_le k hk; unfold lng; omega
  have hL4 : 4 ≤ lng k := by unfold lng; omega
  obtain ⟨hh1, hh5⟩ := hh.le
  have hNe : llng k h = 4 + lng k + 4 + h * 32 := rfl
  obtain ⟨a, c, hv, hc, hm⟩ := hr.some_ (by omega)
  subst hv
  unfold maxLen at hm
  obtain ⟨L, hL⟩ : ∃ L, lng k = L := ⟨_, rfl⟩
  obtain ⟨N, hN⟩ : ∃ N, llng k h = N := ⟨_, rfl⟩
  rw [hl] at hc HR ⊢
  rw [hN] at hc hNe HR HSL ⊢
  rw [hL] at hNe hL9 hL4
  have HNE := Lib.hid hN
  have HLE := Lib.hid hL
  have HK := Lib.hid hk
  have HH := Lib.hid hh
  have HC2 : Hid (((shl k h)[2]? : Option Value) = some (.int .i64 (L : Int))) := by show _ = _; rw [← hL]; rfl
  obtain ⟨M, hM⟩ : ∃ M, 4 + L = M := ⟨_, rfl⟩
  have zM : 4 + (L : Int) = (M : Int) := by omega
  have hc4 : ¬ c = 4 := by omega
  have hcM : ¬ c = M := by omega
  have hcM4 : ¬ c - M = 4 := by omega
  have hML : M - 4 = L := by omega
  have hMN : M + 4 + 32 ≤ N := by omega
  have HHN : Hid (N - M - 4 = 32 * h) := by show _ = _; omega
  have HMN : Hid (M + 4 + 32 * h = N) := by show _ = _; omega
  have HME := Lib.hid hM
  obtain ⟨d86, hu86, hd86⟩ := row86
  have HU := Lib.hid hu86
  have HD := Lib.hid hd86
  obtain ⟨d74, hu74, hd74⟩ := row74
  have HU7 := Lib.hid hu74
  have HD7 := Lib.hid hd74
  obtain ⟨q, hq⟩ : ∃ q, wd s 0 = q := ⟨_, rfl⟩
  have HQE := Lib.hid hq
  have hq4 : Hid (q < 4294967296) := by show _ < _; rw [← hq]; exact wd_lt _ _
  obtain ⟨Y, hY⟩ : ∃ Y, typ k = Y := ⟨_, rfl⟩
  obtain ⟨D, hD⟩ : ∃ D, knd h = D := ⟨_, rfl⟩
  have HC0 : Hid (((shl k h)[0]? : Option Value) = some (.int .u32 (D : Int))) := by show _ = _; rw [← hD]; rfl
  have HC1 : Hid (((shl k h)[1]? : Option Value) = some (.int .u32 (Y : Int))) := by show _ = _; rw [← hY]; rfl
  have HO0 : Hid (Rd w.heap.size w (.slice (some ⟨a.block, a.off + 4, none⟩) L (c - 4)) ((s.drop 4).take L)) := by
    have e1 := HR.out.drop 4 (by omega)
    rw [if_neg hc4, show a.add 4 = ⟨a.block, a.off + 4, none⟩ by simp [Addr.add]] at e1
    exact e1.take L (by omega)
  have HB0 : Hid (Rd w.heap.size w (.slice (some (a.add M)) (N - M) (c - M)) (s.drop M)) := by
    have e1 := HR.out.drop M (by omega)
    rw [if_neg hcM] at e1
    exact e1
  have HS0 : Hid (Rd w.heap.size w (.slice (some ⟨(a.add M).block, (a.add M).off + 4, none⟩) (N - M - 4) (c - M - 4)) ((s.drop M).drop 4)) := by
    have e1 := HB0.out.drop 4 (by omega)
    rw [if_neg hcM4, show (a.add M).add 4 = ⟨(a.add M).block, (a.add M).off + 4, none⟩ by simp [Addr.add]] at e1
    exact e1
  obtain ⟨E, hE⟩ : ∃ E, wd ((s.drop 4).take L) 0 = E := ⟨_, rfl⟩
  rw [hL, hE, hY] at h1
  have HE := Lib.hid hE
  have zE : ((E : Int) != (Y : Int)) = true := by simp; omega
  clear hE
  clear hY hD
  clear hr hl hN hL hk hh hu86 hd86 hu74 hd74 hNe hM hq hh1
  go_enter Try.func45, Try.ntmps45
  go_wp2_with (refine wpList_box_blk rfl 74 _ rfl (shl k h) rfl ?_)
  intro w1 a1 a2 a3
  have A1 := Lib.hid a1
  have A2 := Lib.hid a2
  have A3 := Lib.hid a3
  clear a1 a2 a3
  go_wp2_with (refine wpList_alloc_blk rfl 86 rfl _ zi86 ?_)
  intro w2 a1 a2 a3
  obtain ⟨g3, hg3⟩ : ∃ g, w.heap.size = g := ⟨_, rfl⟩
  obtain ⟨g4, hg4⟩ : ∃ g, w1.heap.size = g := ⟨_, rfl⟩
  have hs1 := A2.out
  have G3 : Hid (Blk w2 g3 (shl k h) 74) := by rw [← hg3]; exact A1.out.below a3 (by omega)
  have G4 : Hid (Blk w2 g4 pts0 86) := by rw [← hg4]; exact a1
  have GB : Hid (Below w.heap.size w w2) := A3.out.trans (a3.mono (by omega))
  have hw4 : w.heap.size ≤ g4 := by omega
  have hw3 : w.heap.size ≤ g3 := by omega
  have hg34 : g3 < g4 := by omega
  rw [hg3, hg4]
  clear a1 a2 a3 A1 A2 A3 hs1 hg3 hg4
  go_wp2
  refine wp_scope_goto 0 rfl ?_
  go_wp2_with (refine wpList_alloc_blk rfl 86 rfl _ zi86 ?_)
  intro w3 a1 a2 a3
  obtain ⟨g6, hg6⟩ : ∃ g, w2.heap.size = g := ⟨_, rfl⟩
  have hg46 : g4 < g6 := by rw [← hg6]; exact G4.out.lt
  have E3 : Hid (Blk w3 g3 (shl k h) 74) := G3.out.below a3 G3.out.lt
  have E4 : Hid (Blk w3 g4 pts0 86) := G4.out.below a3 G4.out.lt
  have E6 : Hid (Blk w3 g6 pts0 86) := by rw [← hg6]; exact a1
  have EB : Hid (Below w.heap.size w w3) := GB.out.trans (a3.mono GB.out.size)
  rw [hg6]
  clear a1 a2 a3 G3 G4 GB hg6
  go_wp2_with (refine wpList_load_blkU rfl 74 _ rfl g3 rfl (shl k h) 74 E3.out d74 HU7.out HD7.out s74 ?_)
  refine (longL_any k h _ HK.out HH.out).mono ?_
  rintro e w4 ⟨rfl, hb⟩
  rw [HNE.out]
  have F3 : Hid (Blk w4 g3 (shl k h) 74) := E3.out.below hb E3.out.lt
  have F4 : Hid (Blk w4 g4 pts0 86) := E4.out.below hb E4.out.lt
  have F6 : Hid (Blk w4 g6 pts0 86) := E6.out.below hb E6.out.lt
  have FB : Hid (Below w.heap.size w w4) := EB.out.trans (hb.mono EB.out.size)
  clear hb E3 E4 E6 EB
  go_wp2_with fail
  refine (numberL_any w.heap.size _ s _ (HR.out.below FB.out) (by rw [HSL.out]; omega)).mono ?_
  rintro e w5' ⟨rfl, nd, hw5⟩
  rw [HQE.out]
  have hb5 : Below w4.heap.size w4 w5' := by rw [hw5]; exact below_drewN (Below.refl _ _) _
  have I3 : Hid (Blk w5' g3 (shl k h) 74) := F3.out.below hb5 F3.out.lt
  have I4 : Hid (Blk w5' g4 pts0 86) := F4.out.below hb5 F4.out.lt
  have I6 : Hid (Blk w5' g6 pts0 86) := F6.out.below hb5 F6.out.lt
  have IB : Hid (Below w.heap.size w w5') := FB.out.trans (hb5.mono FB.out.size)
  have c0 : w5'.cell? ⟨g6, 0, none⟩ = some (.int .u32 0) := (I6.out.cell 0).trans rfl
  have f0 := I6.out.frozen 0
  obtain ⟨V0, hV0⟩ : ∃ V, w5'.setCell ⟨g6, 0, none⟩ (.int .u32 (q : Int)) = V := ⟨_, rfl⟩
  have J6 : Hid (Blk V0 g6 [.int .u32 (q : Int), .slice none 0 0, .slice none 0 0] 86) := by rw [← hV0]; exact I6.out.set 0 _
  have J3 : Hid (Blk V0 g3 (shl k h) 74) := by rw [← hV0]; exact I3.out.setOther _ _ (by show g3 ≠ g6; omega)
  have cL : V0.cell? ⟨g3, 2, none⟩ = some (.int .i64 (L : Int)) := (J3.out.cell 2).trans HC2.out
  have c1 : V0.cell? ⟨g6, 1, none⟩ = some (.slice none 0 0) := (J6.out.cell 1).trans rfl
  have f1 := J6.out.frozen 1
  obtain ⟨V1, hV1⟩ : ∃ V, V0.setCell ⟨g6, 1, none⟩ (.slice (some ⟨a.block, a.off + 4, none⟩) L (c - 4)) = V := ⟨_, rfl⟩
  have P6 : Hid (Blk V1 g6 [.int .u32 (q : Int), .slice (some ⟨a.block, a.off + 4, none⟩) L (c - 4), .slice none 0 0] 86) := by rw [← hV1]; exact J6.out.set 1 _
  have P3 : Hid (Blk V1 g3 (shl k h) 74) := by rw [← hV1]; exact J3.out.setOther _ _ (by show g3 ≠ g6; omega)
  have cL2 : V1.cell? ⟨g3, 2, none⟩ = some (.int .i64 (L : Int)) := (P3.out.cell 2).trans HC2.out
  have c2 : V1.cell? ⟨g6, 2, none⟩ = some (.slice none 0 0) := (P6.out.cell 2).trans rfl
  have f2 := P6.out.frozen 2
  obtain ⟨V2, hV2⟩ : ∃ V, V1.setCell ⟨g6, 2, none⟩ (.slice (some ⟨(a.add M).block, (a.add M).off + 4, none⟩) (N - M - 4) (c - M - 4)) = V := ⟨_, rfl⟩
  have R6 : Hid (Blk V2 g6 (ptl q (.slice (some ⟨a.block, a.off + 4, none⟩) L (c - 4)) (.slice (some ⟨(a.add M).block, (a.add M).off + 4, none⟩) (N - M - 4) (c - M - 4))) 86) := by rw [← hV2]; exact P6.out.set 2 _
  have R3 : Hid (Blk V2 g3 (shl k h) 74) := by rw [← hV2]; exact P3.out.setOther _ _ (by show g3 ≠ g6; omega)
  have R4 : Hid (Blk V2 g4 pts0 86) := by
    rw [← hV2, ← hV1, ← hV0]
    exact ((I4.out.setOther _ _ (by show g4 ≠ g6; omega)).setOther _ _ (by show g4 ≠ g6; omega)).setOther _ _ (by show g4 ≠ g6; omega)
  have RB : Hid (Below w.heap.size w V2) := by
    rw [← hV2, ← hV1, ← hV0]
    exact IB.out.trans ((((But.refl g6 w5').setCell 0 _).setCell 1 _).setCell 2 _ |>.below (by omega) IB.out.size)
  clear hw5 hb5 F3 F4 F6 FB
  go_wp2
  have HO : Hid (Rd w.heap.size V2 (.slice (some ⟨a.block, a.off + 4, none⟩) L (c - 4)) ((s.drop 4).take L)) := HO0.out.below RB.out
  have HB : Hid (Rd w.heap.size V2 (.slice (some (a.add M)) (N - M) (c - M)) (s.drop M)) := HB0.out.below RB.out
  clear c0 f0 c1 f1 c2 f2 cL cL2 hV0 hV1 hV2 I3 I4 I6 IB J3 J6 P3 P6
  refine wp_region_rely2 21 0 (fun x => ⟨#[Value.slice (some a) N c, Value.agg (shl k h).toArray, undef, Value.pointer (some { block := g3, off := 0 }), Value.pointer (some { block := g4, off := 0 }), Value.int IntKind.i64 0, Value.pointer (some { block := g6, off := 0 }), Value.slice (some (a.add M)) (N - M) (c - M), Value.int IntKind.i64 3, Value.slice (some a) N c, Value.int IntKind.i64 ↑N, Value.agg (shl k h).toArray, Value.int IntKind.i64 ↑N, Value.bool false, Value.slice (some a) N c, Value.int IntKind.u32 ↑q, Value.pointer (some { block := g6, off := 0 }), Value.slice (some a) N c, Value.pointer (some { block := g3, off := 2 }), Value.int IntKind.i64 ↑L, Value.int IntKind.i64 ↑M, Value.slice (some { block := a.block, off := a.off + 4 }) L (c - 4), Value.pointer (some { block := g6, off := 1 }), Value.slice (some a) N c, Value.pointer (some { block := g3, off := 2 }), Value.int IntKind.i64 ↑L, Value.int IntKind.i64 ↑M, Value.slice (some (a.add M)) (N - M) (c - M), Value.slice (some (a.add M)) (N - M) (c - M), Value.slice (some { block := (a.add M).block, off := (a.add M).off + 4 }) (N - M - 4) (c - M - 4), Value.pointer (some { block := g6, off := 2 }), x 0, x 1, x 2, x 3, x 4, x 5, x 6, x 7, x 8, x 9, x 10, x 11, x 12, x 13, x 14, x 15, x 16, x 17, x 18, x 19, x 20, undef, undef, undef], []⟩) (fun jj => ([eqV (.pointer (some ⟨g6, 1, none⟩)), eqV (.slice (some ⟨a.block, a.off + 4, none⟩) L (c - 4)), (eqV (.int .u32 (E : Int))), eqV (.pointer (some ⟨g3, 1, none⟩)), eqV (.int .u32 (Y : Int)), eqV (.bool true), eqV (.bool true), (eqV undef), (eqV undef), (eqV undef), (eqV undef), (eqV undef), eqV (.bool true), eqV (.bool true), (eqV undef), (eqV undef), (eqV undef), (eqV undef), (eqV undef), (eqV undef), eqV (.bool true)] : List (Value → World → Prop)).getD jj (fun _ _ => True)) rfl ⟨fun kk => [_, _, _, _, _, _, _, _, _, _, _, _, _, _, _, _, _, _, _, _, _].getD kk undef, rfl⟩ (by kernel_rfl) (by kernel_rfl) ?steps ?fin
  case steps =>
    refine StepsAt.val 0 (.pointer (some ⟨g6, 1, none⟩)) rfl (fun _ _ => rfl) rfl rfl (fun x w9 hb hd => ?_) ?_
    · first | (go_simp; done) | (go_simp; rfl)
    refine StepsAt.val 1 (.slice (some ⟨a.block, a.off + 4, none⟩) L (c - 4)) rfl (fun _ _ => rfl) rfl rfl (fun x w9 hb hd => ?_) ?_
    · have h0 : x 0 = .pointer (some ⟨g6, 1, none⟩) := hd 0 (by kernel_rfl)
      have cc := ((R6.out.below hb R6.out.lt).cell 1).trans rfl
      rw [h0]
      first | (go_simp; done) | (go_simp; rfl)
    refine StepsAt.cons 2 (fun _ _ _ h hb => h) (fun _ _ => rfl) rfl rfl (fun x w9 hb hd K hK => ?_) ?_
    · have h1 : Hid (x 1 = .slice (some ⟨a.block, a.off + 4, none⟩) L (c - 4)) := hd 1 (by kernel_rfl)
      go_simp
      refine calls_args (args2 := #[.slice (some ⟨a.block, a.off + 4, none⟩) L (c - 4)]) (by rw [h1.out]) ?_
      refine (numberL_any w.heap.size _ ((s.drop 4).take L) _ (HO.out.below (hb.mono RB.out.size)) (by rw [List.length_take, List.length_drop, HSL.out]; omega)).mono ?_
      rintro e w5 ⟨rfl, nd, rfl⟩
      rw [HE.out]
      exact hK.out _ _ (below_drewN (Below.refl _ _) _) rfl
    refine StepsAt.val 3 (.pointer (some ⟨g3, 1, none⟩)) rfl (fun _ _ => rfl) rfl rfl (fun x w9 hb hd => ?_) ?_
    · first | (go_simp; done) | (go_simp; rfl)
    refine StepsAt.val 4 (.int .u32 (Y : Int)) rfl (fun _ _ => rfl) rfl rfl (fun x w9 hb hd => ?_) ?_
    · have h3 : x 3 = .pointer (some ⟨g3, 1, none⟩) := hd 3 (by kernel_rfl)
      have cc := ((R3.out.below hb R3.out.lt).cell 1).trans HC1.out
      rw [h3]
      first | (go_simp; done) | (go_simp; rfl)
    refine StepsAt.val 5 (.bool true) rfl (fun _ _ => rfl) rfl rfl (fun x w9 hb hd => ?_) ?_
    · have h2 : x 2 = .int .u32 (E : Int) := hd 2 (by kernel_rfl)
      have h4 : x 4 = .int .u32 (Y : Int) := hd 4 (by kernel_rfl)
      rw [h2, h4]
      first | (go_simp; done) | (go_simp; rfl)
    refine StepsAt.val 6 (.bool true) rfl (fun _ _ => rfl) rfl rfl (fun x w9 hb hd => ?_) ?_
    · have h5 : x 5 = .bool true := hd 5 (by kernel_rfl)
      rw [h5]
      first | (go_simp; done) | (go_simp; rfl)
    refine StepsAt.skip 7 rfl (fun _ _ => rfl) rfl (fun x w9 hd => ?_) ?_
    · have hG : x 6 = .bool true := hd 6 (by kernel_rfl)
      simp [Region.wanted, yielded, hG]
    refine StepsAt.skip 8 rfl (fun _ _ => rfl) rfl (fun x w9 hd => ?_) ?_
    · have hG : x 6 = .bool true := hd 6 (by kernel_rfl)
      simp [Region.wanted, yielded, hG]
    refine StepsAt.skip 9 rfl (fun _ _ => rfl) rfl (fun x w9 hd => ?_) ?_
    · have hG : x 6 = .bool true := hd 6 (by kernel_rfl)
      simp [Region.wanted, yielded, hG]
    refine StepsAt.skip 10 rfl (fun _ _ => rfl) rfl (fun x w9 hd => ?_) ?_
    · have hG : x 6 = .bool true := hd 6 (by kernel_rfl)
      simp [Region.wanted, yielded, hG]
    refine StepsAt.skip 11 rfl (fun _ _ => rfl) rfl (fun x w9 hd => ?_) ?_
    · have hG : x 6 = .bool true := hd 6 (by kernel_rfl)
      simp [Region.wanted, yielded, hG]
    refine StepsAt.val 12 (.bool true) rfl (fun _ _ => rfl) rfl rfl (fun x w9 hb hd => ?_) ?_
    · have h6 : x 6 = .bool true := hd 6 (by kernel_rfl)
      have h11 : x 11 = undef := hd 11 (by kernel_rfl)
      rw [h6, h11]
      first | (go_simp; done) | (go_simp; rfl)
    refine StepsAt.val 13 (.bool true) rfl (fun _ _ => rfl) rfl rfl (fun x w9 hb hd => ?_) ?_
    · have h12 : x 12 = .bool true := hd 12 (by kernel_rfl)
      rw [h12]
      first | (go_simp; done) | (go_simp; rfl)
    refine StepsAt.skip 14 rfl (fun _ _ => rfl) rfl (fun x w9 hd => ?_) ?_
    · have hG : x 13 = .bool true := hd 13 (by kernel_rfl)
      simp [Region.wanted, yielded, hG]
    refine StepsAt.skip 15 rfl (fun _ _ => rfl) rfl (fun x w9 hd => ?_) ?_
    · have hG : x 13 = .bool true := hd 13 (by kernel_rfl)
      simp [Region.wanted, yielded, hG]
    refine StepsAt.skip 16 rfl (fun _ _ => rfl) rfl (fun x w9 hd => ?_) ?_
    · have hG : x 13 = .bool true := hd 13 (by kernel_rfl)
      simp [Region.wanted, yielded, hG]
    refine StepsAt.skip 17 rfl (fun _ _ => rfl) rfl (fun x w9 hd => ?_) ?_
    · have hG : x 13 = .bool true := hd 13 (by kernel_rfl)
      simp [Region.wanted, yielded, hG]
    refine StepsAt.skip 18 rfl (fun _ _ => rfl) rfl (fun x w9 hd => ?_) ?_
    · have hG : x 13 = .bool true := hd 13 (by kernel_rfl)
      simp [Region.wanted, yielded, hG]
    refine StepsAt.skip 19 rfl (fun _ _ => rfl) rfl (fun x w9 hd => ?_) ?_
    · have hG : x 13 = .bool true := hd 13 (by kernel_rfl)
      simp [Region.wanted, yielded, hG]
    refine StepsAt.val 20 (.bool true) rfl (fun _ _ => rfl) rfl rfl (fun x w9 hb hd => ?_) ?_
    · have h13 : x 13 = .bool true := hd 13 (by kernel_rfl)
      have h19 : x 19 = undef := hd 19 (by kernel_rfl)
      rw [h13, h19]
      first | (go_simp; done) | (go_simp; rfl)
    exact StepsAt.done
  case fin =>
    intro x w9 hb hd
    have h20 : x 20 = .bool true := hd 20 (by omega)
    refine AnyTill.any (S := fun _ => True) (m := 21) _ _ _ _ ?_
    refine AnyTill.done (by kernel_rfl) ?_
    refine NoPanic.normal ?_
    dsimp only
    rw [h20]
    have T6 : Hid (Blk w9 g6 (ptl q (.slice (some ⟨a.block, a.off + 4, none⟩) L (c - 4)) (.slice (some ⟨(a.add M).block, (a.add M).off + 4, none⟩) (N - M - 4) (c - M - 4))) 86) := R6.out.below hb R6.out.lt
    have T4 : Hid (Blk w9 g4 pts0 86) := R4.out.below hb R4.out.lt
    have TB : Hid (Below w.heap.size w w9) := RB.out.trans (hb.mono RB.out.size)
    generalize x 0 = y0
    generalize x 1 = y1
    generalize x 2 = y2
    generalize x 3 = y3
    generalize x 4 = y4
    generalize x 5 = y5
    generalize x 6 = y6
    generalize x 7 = y7
    generalize x 8 = y8
    generalize x 9 = y9
    generalize x 10 = y10
    generalize x 11 = y11
    generalize x 12 = y12
    generalize x 13 = y13
    generalize x 14 = y14
    generalize x 15 = y15
    generalize x 16 = y16
    generalize x 17 = y17
    generalize x 18 = y18
    generalize x 19 = y19
    clear hd h20 hb R3 R4 R6 RB x
    go_wp2
    refine wp_goto ⟨rfl, ?_⟩
    go_wp2_with (first | (refine wpList_buildTo rfl 86 _ rfl (some 53) rfl pts0.toArray (by kernel_rfl) ?_) | (refine wpList_store_blk rfl 86 _ _ rfl g4 pts0 pts0 86 rfl rfl T4.out s86 rfl pts0_one ?_))
    rw [Exit.noGoto_ret]
    refine bodyPost_ret (v := .tuple #[.agg pts0.toArray, .int .i64 3]) ?_ rfl ?_
    · exact ret_blk2U rfl _ _ g4 86 pts0 _ rfl rfl T4.out.setRow d86 HU.out HD.out s86
    · exact ⟨rfl, below_setRow' TB.out hw4 _⟩

set_option maxRecDepth 100000 in
set_option maxHeartbeats 2000000 in
theorem partsIn_B (v : Value) (s : List UInt8) (k h : Nat) (w : World) (hr : Rd w.heap.size w v s) (hk : Wd k) (hh : Ht h) (hl : s.length = llng k h) (h1 : wd ((s.drop 4).take (lng k)) 0 = typ k) (h2 : wd (s.drop (4 + lng k)) 0 ≠ knd h) : Calls Try.prog 45 #[v, .agg (shl k h).toArray] w (TwoD (.agg pts0.toArray) (.int .i64 3) w) := by
  have HR := Lib.hid hr
  have HSL := Lib.hid hl
  have hL9 : lng k ≤ 10000 := by have := mny_le k hk; unfold lng; omega
  have hL4 : 4 ≤ lng k := by unfold lng; omega
  obtain ⟨hh1, hh5⟩ := hh.le
  have hNe : llng k h = 4 + lng k + 4 + h * 32 := rfl
  obtain ⟨a, c, hv, hc, hm⟩ := hr.some_ (by omega)
  subst hv
  unfold maxLen at hm
  obtain ⟨L, hL⟩ : ∃ L, lng k = L := ⟨_, rfl⟩
  obtain ⟨N, hN⟩ : ∃ N, llng k h = N := ⟨_, rfl⟩
  rw [hl] at hc HR ⊢
  rw [hN] at hc hNe HR HSL ⊢
  rw [hL] at hNe hL9 hL4
  have HNE := Lib.hid hN
  have HLE := Lib.hid hL
  have HK := Lib.hid hk
  have HH := Lib.hid hh
  have HC2 : Hid (((shl k h)[2]? : Option Value) = some (.int .i64 (L : Int))) := by show _ = _; rw [← hL]; rfl
  obtain ⟨M, hM⟩ : ∃ M, 4 + L = M := ⟨_, rfl⟩
  have zM : 4 + (L : Int) = (M : Int) := by omega
  have hc4 : ¬ c = 4 := by omega
  have hcM : ¬ c = M := by omega
  have hcM4 : ¬ c - M = 4 := by omega
  have hML : M - 4 = L := by omega
  have hMN : M + 4 + 32 ≤ N := by omega
  have HHN : Hid (N - M - 4 = 32 * h) := by show _ = _; omega
  have HMN : Hid (M + 4 + 32 * h = N) := by show _ = _; omega
  have HME := Lib.hid hM
  obtain ⟨d86, hu86, hd86⟩ := row86
  have HU := Lib.hid hu86
  have HD := Lib.hid hd86
  obtain ⟨d74, hu74, hd74⟩ := row74
  have HU7 := Lib.hid hu74
  have HD7 := Lib.hid hd74
  obtain ⟨q, hq⟩ : ∃ q, wd s 0 = q := ⟨_, rfl⟩
  have HQE := Lib.hid hq
  have hq4 : Hid (q < 4294967296) := by show _ < _; rw [← hq]; exact wd_lt _ _
  obtain ⟨Y, hY⟩ : ∃ Y, typ k = Y := ⟨_, rfl⟩
  obtain ⟨D, hD⟩ : ∃ D, knd h = D := ⟨_, rfl⟩
  have HC0 : Hid (((shl k h)[0]? : Option Value) = some (.int .u32 (D : Int))) := by show _ = _; rw [← hD]; rfl
  have HC1 : Hid (((shl k h)[1]? : Option Value) = some (.int .u32 (Y : Int))) := by show _ = _; rw [← hY]; rfl
  have HO0 : Hid (Rd w.heap.size w (.slice (some ⟨a.block, a.off + 4, none⟩) L (c - 4)) ((s.drop 4).take L)) := by
    have e1 := HR.out.drop 4 (by omega)
    rw [if_neg hc4, show a.add 4 = ⟨a.block, a.off + 4, none⟩ by simp [Addr.add]] at e1
    exact e1.take L (by omega)
  have HB0 : Hid (Rd w.heap.size w (.slice (some (a.add M)) (N - M) (c - M)) (s.drop M)) := by
    have e1 := HR.out.drop M (by omega)
    rw [if_neg hcM] at e1
    exact e1
  have HS0 : Hid (Rd w.heap.size w (.slice (some ⟨(a.add M).block, (a.add M).off + 4, none⟩) (N - M - 4) (c - M - 4)) ((s.drop M).drop 4)) := by
    have e1 := HB0.out.drop 4 (by omega)
    rw [if_neg hcM4, show (a.add M).add 4 = ⟨(a.add M).block, (a.add M).off + 4, none⟩ by simp [Addr.add]] at e1
    exact e1
  rw [hL, hY] at h1
  have HE := Lib.hid h1
  clear h1
  obtain ⟨G, hG⟩ : ∃ G, wd (s.drop M) 0 = G := ⟨_, rfl⟩
  rw [hL, hM, hG, hD] at h2
  have HG := Lib.hid hG
  have zG : ((G : Int) != (D : Int)) = true := by simp; omega
  clear hG
  clear hY hD
  clear hr hl hN hL hk hh hu86 hd86 hu74 hd74 hNe hM hq hh1
  go_enter Try.func45, Try.ntmps45
  go_wp2_with (refine wpList_box_blk rfl 74 _ rfl (shl k h) rfl ?_)
  intro w1 a1 a2 a3
  have A1 := Lib.hid a1
  have A2 := Lib.hid a2
  have A3 := Lib.hid a3
  clear a1 a2 a3
  go_wp2_with (refine wpList_alloc_blk rfl 86 rfl _ zi86 ?_)
  intro w2 a1 a2 a3
  obtain ⟨g3, hg3⟩ : ∃ g, w.heap.size = g := ⟨_, rfl⟩
  obtain ⟨g4, hg4⟩ : ∃ g, w1.heap.size = g := ⟨_, rfl⟩
  have hs1 := A2.out
  have G3 : Hid (Blk w2 g3 (shl k h) 74) := by rw [← hg3]; exact A1.out.below a3 (by omega)
  have G4 : Hid (Blk w2 g4 pts0 86) := by rw [← hg4]; exact a1
  have GB : Hid (Below w.heap.size w w2) := A3.out.trans (a3.mono (by omega))
  have hw4 : w.heap.size ≤ g4 := by omega
  have hw3 : w.heap.size ≤ g3 := by omega
  have hg34 : g3 < g4 := by omega
  rw [hg3, hg4]
  clear a1 a2 a3 A1 A2 A3 hs1 hg3 hg4
  go_wp2
  refine wp_scope_goto 0 rfl ?_
  go_wp2_with (refine wpList_alloc_blk rfl 86 rfl _ zi86 ?_)
  intro w3 a1 a2 a3
  obtain ⟨g6, hg6⟩ : ∃ g, w2.heap.size = g := ⟨_, rfl⟩
  have hg46 : g4 < g6 := by rw [← hg6]; exact G4.out.lt
  have E3 : Hid (Blk w3 g3 (shl k h) 74) := G3.out.below a3 G3.out.lt
  have E4 : Hid (Blk w3 g4 pts0 86) := G4.out.below a3 G4.out.lt
  have E6 : Hid (Blk w3 g6 pts0 86) := by rw [← hg6]; exact a1
  have EB : Hid (Below w.heap.size w w3) := GB.out.trans (a3.mono GB.out.size)
  rw [hg6]
  clear a1 a2 a3 G3 G4 GB hg6
  go_wp2_with (refine wpList_load_blkU rfl 74 _ rfl g3 rfl (shl k h) 74 E3.out d74 HU7.out HD7.out s74 ?_)
  refine (longL_any k h _ HK.out HH.out).mono ?_
  rintro e w4 ⟨rfl, hb⟩
  rw [HNE.out]
  have F3 : Hid (Blk w4 g3 (shl k h) 74) := E3.out.below hb E3.out.lt
  have F4 : Hid (Blk w4 g4 pts0 86) := E4.out.below hb E4.out.lt
  have F6 : Hid (Blk w4 g6 pts0 86) := E6.out.below hb E6.out.lt
  have FB : Hid (Below w.heap.size w w4) := EB.out.trans (hb.mono EB.out.size)
  clear hb E3 E4 E6 EB
  go_wp2_with fail
  refine (numberL_any w.heap.size _ s _ (HR.out.below FB.out) (by rw [HSL.out]; omega)).mono ?_
  rintro e w5' ⟨rfl, nd, hw5⟩
  rw [HQE.out]
  have hb5 : Below w4.heap.size w4 w5' := by rw [hw5]; exact below_drewN (Below.refl _ _) _
  have I3 : Hid (Blk w5' g3 (shl k h) 74) := F3.out.below hb5 F3.out.lt
  have I4 : Hid (Blk w5' g4 pts0 86) := F4.out.below hb5 F4.out.lt
  have I6 : Hid (Blk w5' g6 pts0 86) := F6.out.below hb5 F6.out.lt
  have IB : Hid (Below w.heap.size w w5') := FB.out.trans (hb5.mono FB.out.size)
  have c0 : w5'.cell? ⟨g6, 0, none⟩ = some (.int .u32 0) := (I6.out.cell 0).trans rfl
  have f0 := I6.out.frozen 0
  obtain ⟨V0, hV0⟩ : ∃ V, w5'.setCell ⟨g6, 0, none⟩ (.int .u32 (q : Int)) = V := ⟨_, rfl⟩
  have J6 : Hid (Blk V0 g6 [.int .u32 (q : Int), .slice none 0 0, .slice none 0 0] 86) := by rw [← hV0]; exact I6.out.set 0 _
  have J3 : Hid (Blk V0 g3 (shl k h) 74) := by rw [← hV0]; exact I3.out.setOther _ _ (by show g3 ≠ g6; omega)
  have cL : V0.cell? ⟨g3, 2, none⟩ = some (.int .i64 (L : Int)) := (J3.out.cell 2).trans HC2.out
  have c1 : V0.cell? ⟨g6, 1, none⟩ = some (.slice none 0 0) := (J6.out.cell 1).trans rfl
  have f1 := J6.out.frozen 1
  obtain ⟨V1, hV1⟩ : ∃ V, V0.setCell ⟨g6, 1, none⟩ (.slice (some ⟨a.block, a.off + 4, none⟩) L (c - 4)) = V := ⟨_, rfl⟩
  have P6 : Hid (Blk V1 g6 [.int .u32 (q : Int), .slice (some ⟨a.block, a.off + 4, none⟩) L (c - 4), .slice none 0 0] 86) := by rw [← hV1]; exact J6.out.set 1 _
  have P3 : Hid (Blk V1 g3 (shl k h) 74) := by rw [← hV1]; exact J3.out.setOther _ _ (by show g3 ≠ g6; omega)
  have cL2 : V1.cell? ⟨g3, 2, none⟩ = some (.int .i64 (L : Int)) := (P3.out.cell 2).trans HC2.out
  have c2 : V1.cell? ⟨g6, 2, none⟩ = some (.slice none 0 0) := (P6.out.cell 2).trans rfl
  have f2 := P6.out.frozen 2
  obtain ⟨V2, hV2⟩ : ∃ V, V1.setCell ⟨g6, 2, none⟩ (.slice (some ⟨(a.add M).block, (a.add M).off + 4, none⟩) (N - M - 4) (c - M - 4)) = V := ⟨_, rfl⟩
  have R6 : Hid (Blk V2 g6 (ptl q (.slice (some ⟨a.block, a.off + 4, none⟩) L (c - 4)) (.slice (some ⟨(a.add M).block, (a.add M).off + 4, none⟩) (N - M - 4) (c - M - 4))) 86) := by rw [← hV2]; exact P6.out.set 2 _
  have R3 : Hid (Blk V2 g3 (shl k h) 74) := by rw [← hV2]; exact P3.out.setOther _ _ (by show g3 ≠ g6; omega)
  have R4 : Hid (Blk V2 g4 pts0 86) := by
    rw [← hV2, ← hV1, ← hV0]
    exact ((I4.out.setOther _ _ (by show g4 ≠ g6; omega)).setOther _ _ (by show g4 ≠ g6; omega)).setOther _ _ (by show g4 ≠ g6; omega)
  have RB : Hid (Below w.heap.size w V2) := by
    rw [← hV2, ← hV1, ← hV0]
    exact IB.out.trans ((((But.refl g6 w5').setCell 0 _).setCell 1 _).setCell 2 _ |>.below (by omega) IB.out.size)
  clear hw5 hb5 F3 F4 F6 FB
  go_wp2
  have HO : Hid (Rd w.heap.size V2 (.slice (some ⟨a.block, a.off + 4, none⟩) L (c - 4)) ((s.drop 4).take L)) := HO0.out.below RB.out
  have HB : Hid (Rd w.heap.size V2 (.slice (some (a.add M)) (N - M) (c - M)) (s.drop M)) := HB0.out.below RB.out
  clear c0 f0 c1 f1 c2 f2 cL cL2 hV0 hV1 hV2 I3 I4 I6 IB J3 J6 P3 P6
  refine wp_region_rely2 21 0 (fun x => ⟨#[Value.slice (some a) N c, Value.agg (shl k h).toArray, undef, Value.pointer (some { block := g3, off := 0 }), Value.pointer (some { block := g4, off := 0 }), Value.int IntKind.i64 0, Value.pointer (some { block := g6, off := 0 }), Value.slice (some (a.add M)) (N - M) (c - M), Value.int IntKind.i64 3, Value.slice (some a) N c, Value.int IntKind.i64 ↑N, Value.agg (shl k h).toArray, Value.int IntKind.i64 ↑N, Value.bool false, Value.slice (some a) N c, Value.int IntKind.u32 ↑q, Value.pointer (some { block := g6, off := 0 }), Value.slice (some a) N c, Value.pointer (some { block := g3, off := 2 }), Value.int IntKind.i64 ↑L, Value.int IntKind.i64 ↑M, Value.slice (some { block := a.block, off := a.off + 4 }) L (c - 4), Value.pointer (some { block := g6, off := 1 }), Value.slice (some a) N c, Value.pointer (some { block := g3, off := 2 }), Value.int IntKind.i64 ↑L, Value.int IntKind.i64 ↑M, Value.slice (some (a.add M)) (N - M) (c - M), Value.slice (some (a.add M)) (N - M) (c - M), Value.slice (some { block := (a.add M).block, off := (a.add M).off + 4 }) (N - M - 4) (c - M - 4), Value.pointer (some { block := g6, off := 2 }), x 0, x 1, x 2, x 3, x 4, x 5, x 6, x 7, x 8, x 9, x 10, x 11, x 12, x 13, x 14, x 15, x 16, x 17, x 18, x 19, x 20, undef, undef, undef], []⟩) (fun jj => ([eqV (.pointer (some ⟨g6, 1, none⟩)), eqV (.slice (some ⟨a.block, a.off + 4, none⟩) L (c - 4)), (eqV (.int .u32 (Y : Int))), eqV (.pointer (some ⟨g3, 1, none⟩)), eqV (.int .u32 (Y : Int)), eqV (.bool false), eqV (.bool false), eqV (.slice (some (a.add M)) (N - M) (c - M)), (eqV (.int .u32 (G : Int))), eqV (.pointer (some ⟨g3, 0, none⟩)), eqV (.int .u32 (D : Int)), eqV (.bool true), eqV (.bool true), eqV (.bool true), (eqV undef), (eqV undef), (eqV undef), (eqV undef), (eqV undef), (eqV undef), eqV (.bool true)] : List (Value → World → Prop)).getD jj (fun _ _ => True)) rfl ⟨fun kk => [_, _, _, _, _, _, _, _, _, _, _, _, _, _, _, _, _, _, _, _, _].getD kk undef, rfl⟩ (by kernel_rfl) (by kernel_rfl) ?steps ?fin
  case steps =>
    refine StepsAt.val 0 (.pointer (some ⟨g6, 1, none⟩)) rfl (fun _ _ => rfl) rfl rfl (fun x w9 hb hd => ?_) ?_
    · first | (go_simp; done) | (go_simp; rfl)
    refine StepsAt.val 1 (.slice (some ⟨a.block, a.off + 4, none⟩) L (c - 4)) rfl (fun _ _ => rfl) rfl rfl (fun x w9 hb hd => ?_) ?_
    · have h0 : x 0 = .pointer (some ⟨g6, 1, none⟩) := hd 0 (by kernel_rfl)
      have cc := ((R6.out.below hb R6.out.lt).cell 1).trans rfl
      rw [h0]
      first | (go_simp; done) | (go_simp; rfl)
    refine StepsAt.cons 2 (fun _ _ _ h hb => h) (fun _ _ => rfl) rfl rfl (fun x w9 hb hd K hK => ?_) ?_
    · have h1 : Hid (x 1 = .slice (some ⟨a.block, a.off + 4, none⟩) L (c - 4)) := hd 1 (by kernel_rfl)
      go_simp
      refine calls_args (args2 := #[.slice (some ⟨a.block, a.off + 4, none⟩) L (c - 4)]) (by rw [h1.out]) ?_
      refine (numberL_any w.heap.size _ ((s.drop 4).take L) _ (HO.out.below (hb.mono RB.out.size)) (by rw [List.length_take, List.length_drop, HSL.out]; omega)).mono ?_
      rintro e w5 ⟨rfl, nd, rfl⟩
      rw [HE.out]
      exact hK.out _ _ (below_drewN (Below.refl _ _) _) rfl
    refine StepsAt.val 3 (.pointer (some ⟨g3, 1, none⟩)) rfl (fun _ _ => rfl) rfl rfl (fun x w9 hb hd => ?_) ?_
    · first | (go_simp; done) | (go_simp; rfl)
    refine StepsAt.val 4 (.int .u32 (Y : Int)) rfl (fun _ _ => rfl) rfl rfl (fun x w9 hb hd => ?_) ?_
    · have h3 : x 3 = .pointer (some ⟨g3, 1, none⟩) := hd 3 (by kernel_rfl)
      have cc := ((R3.out.below hb R3.out.lt).cell 1).trans HC1.out
      rw [h3]
      first | (go_simp; done) | (go_simp; rfl)
    refine StepsAt.val 5 (.bool false) rfl (fun _ _ => rfl) rfl rfl (fun x w9 hb hd => ?_) ?_
    · have h2 : x 2 = .int .u32 (Y : Int) := hd 2 (by kernel_rfl)
      have h4 : x 4 = .int .u32 (Y : Int) := hd 4 (by kernel_rfl)
      rw [h2, h4]
      first | (go_simp; done) | (go_simp; rfl)
    refine StepsAt.val 6 (.bool false) rfl (fun _ _ => rfl) rfl rfl (fun x w9 hb hd => ?_) ?_
    · have h5 : x 5 = .bool false := hd 5 (by kernel_rfl)
      rw [h5]
      first | (go_simp; done) | (go_simp; rfl)
    refine StepsAt.valG 7 (.slice (some (a.add M)) (N - M) (c - M)) rfl (fun _ _ => rfl) rfl (fun x w9 hd => ?_) (fun x w9 hb hd => ?_) ?_
    · have hG : x 6 = .bool false := hd 6 (by kernel_rfl)
      simp [Region.wanted, yielded, hG]
    · first | (go_simp; done) | (go_simp; rfl)
    refine StepsAt.consG 8 (fun _ _ _ h hb => h) (fun _ _ => rfl) rfl (fun x w9 hd => ?_) (fun x w9 hb hd K hK => ?_) ?_
    · have hG : x 6 = .bool false := hd 6 (by kernel_rfl)
      simp [Region.wanted, yielded, hG]
    · have h7 : Hid (x 7 = .slice (some (a.add M)) (N - M) (c - M)) := hd 7 (by kernel_rfl)
      go_simp
      refine calls_args (args2 := #[.slice (some (a.add M)) (N - M) (c - M)]) (by rw [h7.out]) ?_
      refine (numberL_any w.heap.size _ (s.drop M) _ (HB.out.below (hb.mono RB.out.size)) (by rw [List.length_drop, HSL.out]; omega)).mono ?_
      rintro e w5 ⟨rfl, nd, rfl⟩
      rw [HG.out]
      exact hK.out _ _ (below_drewN (Below.refl _ _) _) rfl
    refine StepsAt.valG 9 (.pointer (some ⟨g3, 0, none⟩)) rfl (fun _ _ => rfl) rfl (fun x w9 hd => ?_) (fun x w9 hb hd => ?_) ?_
    · have hG : x 6 = .bool false := hd 6 (by kernel_rfl)
      simp [Region.wanted, yielded, hG]
    · first | (go_simp; done) | (go_simp; rfl)
    refine StepsAt.valG 10 (.int .u32 (D : Int)) rfl (fun _ _ => rfl) rfl (fun x w9 hd => ?_) (fun x w9 hb hd => ?_) ?_
    · have hG : x 6 = .bool false := hd 6 (by kernel_rfl)
      simp [Region.wanted, yielded, hG]
    · have h9 : x 9 = .pointer (some ⟨g3, 0, none⟩) := hd 9 (by kernel_rfl)
      have cc := ((R3.out.below hb R3.out.lt).cell 0).trans HC0.out
      rw [h9]
      first | (go_simp; done) | (go_simp; rfl)
    refine StepsAt.valG 11 (.bool true) rfl (fun _ _ => rfl) rfl (fun x w9 hd => ?_) (fun x w9 hb hd => ?_) ?_
    · have hG : x 6 = .bool false := hd 6 (by kernel_rfl)
      simp [Region.wanted, yielded, hG]
    · have h8 : x 8 = .int .u32 (G : Int) := hd 8 (by kernel_rfl)
      have h10 : x 10 = .int .u32 (D : Int) := hd 10 (by kernel_rfl)
      rw [h8, h10]
      first | (go_simp; done) | (go_simp; rfl)
    refine StepsAt.val 12 (.bool true) rfl (fun _ _ => rfl) rfl rfl (fun x w9 hb hd => ?_) ?_
    · have h6 : x 6 = .bool false := hd 6 (by kernel_rfl)
      have h11 : x 11 = .bool true := hd 11 (by kernel_rfl)
      rw [h6, h11]
      first | (go_simp; done) | (go_simp; rfl)
    refine StepsAt.val 13 (.bool true) rfl (fun _ _ => rfl) rfl rfl (fun x w9 hb hd => ?_) ?_
    · have h12 : x 12 = .bool true := hd 12 (by kernel_rfl)
      rw [h12]
      first | (go_simp; done) | (go_simp; rfl)
    refine StepsAt.skip 14 rfl (fun _ _ => rfl) rfl (fun x w9 hd => ?_) ?_
    · have hG : x 13 = .bool true := hd 13 (by kernel_rfl)
      simp [Region.wanted, yielded, hG]
    refine StepsAt.skip 15 rfl (fun _ _ => rfl) rfl (fun x w9 hd => ?_) ?_
    · have hG : x 13 = .bool true := hd 13 (by kernel_rfl)
      simp [Region.wanted, yielded, hG]
    refine StepsAt.skip 16 rfl (fun _ _ => rfl) rfl (fun x w9 hd => ?_) ?_
    · have hG : x 13 = .bool true := hd 13 (by kernel_rfl)
      simp [Region.wanted, yielded, hG]
    refine StepsAt.skip 17 rfl (fun _ _ => rfl) rfl (fun x w9 hd => ?_) ?_
    · have hG : x 13 = .bool true := hd 13 (by kernel_rfl)
      simp [Region.wanted, yielded, hG]
    refine StepsAt.skip 18 rfl (fun _ _ => rfl) rfl (fun x w9 hd => ?_) ?_
    · have hG : x 13 = .bool true := hd 13 (by kernel_rfl)
      simp [Region.wanted, yielded, hG]
    refine StepsAt.skip 19 rfl (fun _ _ => rfl) rfl (fun x w9 hd => ?_) ?_
    · have hG : x 13 = .bool true := hd 13 (by kernel_rfl)
      simp [Region.wanted, yielded, hG]
    refine StepsAt.val 20 (.bool true) rfl (fun _ _ => rfl) rfl rfl (fun x w9 hb hd => ?_) ?_
    · have h13 : x 13 = .bool true := hd 13 (by kernel_rfl)
      have h19 : x 19 = undef := hd 19 (by kernel_rfl)
      rw [h13, h19]
      first | (go_simp; done) | (go_simp; rfl)
    exact StepsAt.done
  case fin =>
    intro x w9 hb hd
    have h20 : x 20 = .bool true := hd 20 (by omega)
    refine AnyTill.any (S := fun _ => True) (m := 21) _ _ _ _ ?_
    refine AnyTill.done (by kernel_rfl) ?_
    refine NoPanic.normal ?_
    dsimp only
    rw [h20]
    have T6 : Hid (Blk w9 g6 (ptl q (.slice (some ⟨a.block, a.off + 4, none⟩) L (c - 4)) (.slice (some ⟨(a.add M).block, (a.add M).off + 4, none⟩) (N - M - 4) (c - M - 4))) 86) := R6.out.below hb R6.out.lt
    have T4 : Hid (Blk w9 g4 pts0 86) := R4.out.below hb R4.out.lt
    have TB : Hid (Below w.heap.size w w9) := RB.out.trans (hb.mono RB.out.size)
    generalize x 0 = y0
    generalize x 1 = y1
    generalize x 2 = y2
    generalize x 3 = y3
    generalize x 4 = y4
    generalize x 5 = y5
    generalize x 6 = y6
    generalize x 7 = y7
    generalize x 8 = y8
    generalize x 9 = y9
    generalize x 10 = y10
    generalize x 11 = y11
    generalize x 12 = y12
    generalize x 13 = y13
    generalize x 14 = y14
    generalize x 15 = y15
    generalize x 16 = y16
    generalize x 17 = y17
    generalize x 18 = y18
    generalize x 19 = y19
    clear hd h20 hb R3 R4 R6 RB x
    go_wp2
    refine wp_goto ⟨rfl, ?_⟩
    go_wp2_with (first | (refine wpList_buildTo rfl 86 _ rfl (some 53) rfl pts0.toArray (by kernel_rfl) ?_) | (refine wpList_store_blk rfl 86 _ _ rfl g4 pts0 pts0 86 rfl rfl T4.out s86 rfl pts0_one ?_))
    rw [Exit.noGoto_ret]
    refine bodyPost_ret (v := .tuple #[.agg pts0.toArray, .int .i64 3]) ?_ rfl ?_
    · exact ret_blk2U rfl _ _ g4 86 pts0 _ rfl rfl T4.out.setRow d86 HU.out HD.out s86
    · exact ⟨rfl, below_setRow' TB.out hw4 _⟩

set_option maxRecDepth 100000 in
set_option maxHeartbeats 2000000 in
theorem partsIn_C (v : Value) (s : List UInt8) (k h : Nat) (w : World) (hr : Rd w.heap.size w v s) (hk : Wd k) (hh : Ht h) (hl : s.length = llng k h) (h1 : wd ((s.drop 4).take (lng k)) 0 = typ k) (h2 : wd (s.drop (4 + lng k)) 0 = knd h) (h3 : 2 ^ h ≤ wd s 0) : Calls Try.prog 45 #[v, .agg (shl k h).toArray] w (TwoD (.agg pts0.toArray) (.int .i64 3) w) := by
  have HR := Lib.hid hr
  have HSL := Lib.hid hl
  have hL9 : lng k ≤ 10000 := by have := mny_le k hk; unfold lng; omega
  have hL4 : 4 ≤ lng k := by unfold lng; omega
  obtain ⟨hh1, hh5⟩ := hh.le
  have hNe : llng k h = 4 + lng k + 4 + h * 32 := rfl
  obtain ⟨a, c, hv, hc, hm⟩ := hr.some_ (by omega)
  subst hv
  unfold maxLen at hm
  obtain ⟨L, hL⟩ : ∃ L, lng k = L := ⟨_, rfl⟩
  obtain ⟨N, hN⟩ : ∃ N, llng k h = N := ⟨_, rfl⟩
  rw [hl] at hc HR ⊢
  rw [hN] at hc hNe HR HSL ⊢
  rw [hL] at hNe hL9 hL4
  have HNE := Lib.hid hN
  have HLE := Lib.hid hL
  have HK := Lib.hid hk
  have HH := Lib.hid hh
  have HC2 : Hid (((shl k h)[2]? : Option Value) = some (.int .i64 (L : Int))) := by show _ = _; rw [← hL]; rfl
  obtain ⟨M, hM⟩ : ∃ M, 4 + L = M := ⟨_, rfl⟩
  have zM : 4 + (L : Int) = (M : Int) := by omega
  have hc4 : ¬ c = 4 := by omega
  have hcM : ¬ c = M := by omega
  have hcM4 : ¬ c - M = 4 := by omega
  have hML : M - 4 = L := by omega
  have hMN : M + 4 + 32 ≤ N := by omega
  have HHN : Hid (N - M - 4 = 32 * h) := by show _ = _; omega
  have HMN : Hid (M + 4 + 32 * h = N) := by show _ = _; omega
  have HME := Lib.hid hM
  obtain ⟨d86, hu86, hd86⟩ := row86
  have HU := Lib.hid hu86
  have HD := Lib.hid hd86
  obtain ⟨d74, hu74, hd74⟩ := row74
  have HU7 := Lib.hid hu74
  have HD7 := Lib.hid hd74
  obtain ⟨q, hq⟩ : ∃ q, wd s 0 = q := ⟨_, rfl⟩
  have HQE := Lib.hid hq
  have hq4 : Hid (q < 4294967296) := by show _ < _; rw [← hq]; exact wd_lt _ _
  obtain ⟨Y, hY⟩ : ∃ Y, typ k = Y := ⟨_, rfl⟩
  obtain ⟨D, hD⟩ : ∃ D, knd h = D := ⟨_, rfl⟩
  have HC0 : Hid (((shl k h)[0]? : Option Value) = some (.int .u32 (D : Int))) := by show _ = _; rw [← hD]; rfl
  have HC1 : Hid (((shl k h)[1]? : Option Value) = some (.int .u32 (Y : Int))) := by show _ = _; rw [← hY]; rfl
  have HO0 : Hid (Rd w.heap.size w (.slice (some ⟨a.block, a.off + 4, none⟩) L (c - 4)) ((s.drop 4).take L)) := by
    have e1 := HR.out.drop 4 (by omega)
    rw [if_neg hc4, show a.add 4 = ⟨a.block, a.off + 4, none⟩ by simp [Addr.add]] at e1
    exact e1.take L (by omega)
  have HB0 : Hid (Rd w.heap.size w (.slice (some (a.add M)) (N - M) (c - M)) (s.drop M)) := by
    have e1 := HR.out.drop M (by omega)
    rw [if_neg hcM] at e1
    exact e1
  have HS0 : Hid (Rd w.heap.size w (.slice (some ⟨(a.add M).block, (a.add M).off + 4, none⟩) (N - M - 4) (c - M - 4)) ((s.drop M).drop 4)) := by
    have e1 := HB0.out.drop 4 (by omega)
    rw [if_neg hcM4, show (a.add M).add 4 = ⟨(a.add M).block, (a.add M).off + 4, none⟩ by simp [Addr.add]] at e1
    exact e1
  rw [hL, hY] at h1
  have HE := Lib.hid h1
  clear h1
  rw [hL, hM, hD] at h2
  have HG := Lib.hid h2
  clear h2
  obtain ⟨B2, hB2⟩ : ∃ B, 2 ^ h = B := ⟨_, rfl⟩
  have HBL : Hid (B2 ≤ 32) := by show _ ≤ _; rw [← hB2]; rcases hh with rfl | rfl | rfl | rfl | rfl <;> decide
  have HB2 := Lib.hid hB2
  rw [hq, hB2] at h3
  have z3 : decide ((B2 : Int) ≤ (q : Int)) = true := by simp; omega
  clear hB2
  clear hY hD
  clear hr hl hN hL hk hh hu86 hd86 hu74 hd74 hNe hM hq hh1
  go_enter Try.func45, Try.ntmps45
  go_wp2_with (refine wpList_box_blk rfl 74 _ rfl (shl k h) rfl ?_)
  intro w1 a1 a2 a3
  have A1 := Lib.hid a1
  have A2 := Lib.hid a2
  have A3 := Lib.hid a3
  clear a1 a2 a3
  go_wp2_with (refine wpList_alloc_blk rfl 86 rfl _ zi86 ?_)
  intro w2 a1 a2 a3
  obtain ⟨g3, hg3⟩ : ∃ g, w.heap.size = g := ⟨_, rfl⟩
  obtain ⟨g4, hg4⟩ : ∃ g, w1.heap.size = g := ⟨_, rfl⟩
  have hs1 := A2.out
  have G3 : Hid (Blk w2 g3 (shl k h) 74) := by rw [← hg3]; exact A1.out.below a3 (by omega)
  have G4 : Hid (Blk w2 g4 pts0 86) := by rw [← hg4]; exact a1
  have GB : Hid (Below w.heap.size w w2) := A3.out.trans (a3.mono (by omega))
  have hw4 : w.heap.size ≤ g4 := by omega
  have hw3 : w.heap.size ≤ g3 := by omega
  have hg34 : g3 < g4 := by omega
  rw [hg3, hg4]
  clear a1 a2 a3 A1 A2 A3 hs1 hg3 hg4
  go_wp2
  refine wp_scope_goto 0 rfl ?_
  go_wp2_with (refine wpList_alloc_blk rfl 86 rfl _ zi86 ?_)
  intro w3 a1 a2 a3
  obtain ⟨g6, hg6⟩ : ∃ g, w2.heap.size = g := ⟨_, rfl⟩
  have hg46 : g4 < g6 := by rw [← hg6]; exact G4.out.lt
  have E3 : Hid (Blk w3 g3 (shl k h) 74) := G3.out.below a3 G3.out.lt
  have E4 : Hid (Blk w3 g4 pts0 86) := G4.out.below a3 G4.out.lt
  have E6 : Hid (Blk w3 g6 pts0 86) := by rw [← hg6]; exact a1
  have EB : Hid (Below w.heap.size w w3) := GB.out.trans (a3.mono GB.out.size)
  rw [hg6]
  clear a1 a2 a3 G3 G4 GB hg6
  go_wp2_with (refine wpList_load_blkU rfl 74 _ rfl g3 rfl (shl k h) 74 E3.out d74 HU7.out HD7.out s74 ?_)
  refine (longL_any k h _ HK.out HH.out).mono ?_
  rintro e w4 ⟨rfl, hb⟩
  rw [HNE.out]
  have F3 : Hid (Blk w4 g3 (shl k h) 74) := E3.out.below hb E3.out.lt
  have F4 : Hid (Blk w4 g4 pts0 86) := E4.out.below hb E4.out.lt
  have F6 : Hid (Blk w4 g6 pts0 86) := E6.out.below hb E6.out.lt
  have FB : Hid (Below w.heap.size w w4) := EB.out.trans (hb.mono EB.out.size)
  clear hb E3 E4 E6 EB
  go_wp2_with fail
  refine (numberL_any w.heap.size _ s _ (HR.out.below FB.out) (by rw [HSL.out]; omega)).mono ?_
  rintro e w5' ⟨rfl, nd, hw5⟩
  rw [HQE.out]
  have hb5 : Below w4.heap.size w4 w5' := by rw [hw5]; exact below_drewN (Below.refl _ _) _
  have I3 : Hid (Blk w5' g3 (shl k h) 74) := F3.out.below hb5 F3.out.lt
  have I4 : Hid (Blk w5' g4 pts0 86) := F4.out.below hb5 F4.out.lt
  have I6 : Hid (Blk w5' g6 pts0 86) := F6.out.below hb5 F6.out.lt
  have IB : Hid (Below w.heap.size w w5') := FB.out.trans (hb5.mono FB.out.size)
  have c0 : w5'.cell? ⟨g6, 0, none⟩ = some (.int .u32 0) := (I6.out.cell 0).trans rfl
  have f0 := I6.out.frozen 0
  obtain ⟨V0, hV0⟩ : ∃ V, w5'.setCell ⟨g6, 0, none⟩ (.int .u32 (q : Int)) = V := ⟨_, rfl⟩
  have J6 : Hid (Blk V0 g6 [.int .u32 (q : Int), .slice none 0 0, .slice none 0 0] 86) := by rw [← hV0]; exact I6.out.set 0 _
  have J3 : Hid (Blk V0 g3 (shl k h) 74) := by rw [← hV0]; exact I3.out.setOther _ _ (by show g3 ≠ g6; omega)
  have cL : V0.cell? ⟨g3, 2, none⟩ = some (.int .i64 (L : Int)) := (J3.out.cell 2).trans HC2.out
  have c1 : V0.cell? ⟨g6, 1, none⟩ = some (.slice none 0 0) := (J6.out.cell 1).trans rfl
  have f1 := J6.out.frozen 1
  obtain ⟨V1, hV1⟩ : ∃ V, V0.setCell ⟨g6, 1, none⟩ (.slice (some ⟨a.block, a.off + 4, none⟩) L (c - 4)) = V := ⟨_, rfl⟩
  have P6 : Hid (Blk V1 g6 [.int .u32 (q : Int), .slice (some ⟨a.block, a.off + 4, none⟩) L (c - 4), .slice none 0 0] 86) := by rw [← hV1]; exact J6.out.set 1 _
  have P3 : Hid (Blk V1 g3 (shl k h) 74) := by rw [← hV1]; exact J3.out.setOther _ _ (by show g3 ≠ g6; omega)
  have cL2 : V1.cell? ⟨g3, 2, none⟩ = some (.int .i64 (L : Int)) := (P3.out.cell 2).trans HC2.out
  have c2 : V1.cell? ⟨g6, 2, none⟩ = some (.slice none 0 0) := (P6.out.cell 2).trans rfl
  have f2 := P6.out.frozen 2
  obtain ⟨V2, hV2⟩ : ∃ V, V1.setCell ⟨g6, 2, none⟩ (.slice (some ⟨(a.add M).block, (a.add M).off + 4, none⟩) (N - M - 4) (c - M - 4)) = V := ⟨_, rfl⟩
  have R6 : Hid (Blk V2 g6 (ptl q (.slice (some ⟨a.block, a.off + 4, none⟩) L (c - 4)) (.slice (some ⟨(a.add M).block, (a.add M).off + 4, none⟩) (N - M - 4) (c - M - 4))) 86) := by rw [← hV2]; exact P6.out.set 2 _
  have R3 : Hid (Blk V2 g3 (shl k h) 74) := by rw [← hV2]; exact P3.out.setOther _ _ (by show g3 ≠ g6; omega)
  have R4 : Hid (Blk V2 g4 pts0 86) := by
    rw [← hV2, ← hV1, ← hV0]
    exact ((I4.out.setOther _ _ (by show g4 ≠ g6; omega)).setOther _ _ (by show g4 ≠ g6; omega)).setOther _ _ (by show g4 ≠ g6; omega)
  have RB : Hid (Below w.heap.size w V2) := by
    rw [← hV2, ← hV1, ← hV0]
    exact IB.out.trans ((((But.refl g6 w5').setCell 0 _).setCell 1 _).setCell 2 _ |>.below (by omega) IB.out.size)
  clear hw5 hb5 F3 F4 F6 FB
  go_wp2
  have HO : Hid (Rd w.heap.size V2 (.slice (some ⟨a.block, a.off + 4, none⟩) L (c - 4)) ((s.drop 4).take L)) := HO0.out.below RB.out
  have HB : Hid (Rd w.heap.size V2 (.slice (some (a.add M)) (N - M) (c - M)) (s.drop M)) := HB0.out.below RB.out
  clear c0 f0 c1 f1 c2 f2 cL cL2 hV0 hV1 hV2 I3 I4 I6 IB J3 J6 P3 P6
  refine wp_region_rely2 21 0 (fun x => ⟨#[Value.slice (some a) N c, Value.agg (shl k h).toArray, undef, Value.pointer (some { block := g3, off := 0 }), Value.pointer (some { block := g4, off := 0 }), Value.int IntKind.i64 0, Value.pointer (some { block := g6, off := 0 }), Value.slice (some (a.add M)) (N - M) (c - M), Value.int IntKind.i64 3, Value.slice (some a) N c, Value.int IntKind.i64 ↑N, Value.agg (shl k h).toArray, Value.int IntKind.i64 ↑N, Value.bool false, Value.slice (some a) N c, Value.int IntKind.u32 ↑q, Value.pointer (some { block := g6, off := 0 }), Value.slice (some a) N c, Value.pointer (some { block := g3, off := 2 }), Value.int IntKind.i64 ↑L, Value.int IntKind.i64 ↑M, Value.slice (some { block := a.block, off := a.off + 4 }) L (c - 4), Value.pointer (some { block := g6, off := 1 }), Value.slice (some a) N c, Value.pointer (some { block := g3, off := 2 }), Value.int IntKind.i64 ↑L, Value.int IntKind.i64 ↑M, Value.slice (some (a.add M)) (N - M) (c - M), Value.slice (some (a.add M)) (N - M) (c - M), Value.slice (some { block := (a.add M).block, off := (a.add M).off + 4 }) (N - M - 4) (c - M - 4), Value.pointer (some { block := g6, off := 2 }), x 0, x 1, x 2, x 3, x 4, x 5, x 6, x 7, x 8, x 9, x 10, x 11, x 12, x 13, x 14, x 15, x 16, x 17, x 18, x 19, x 20, undef, undef, undef], []⟩) (fun jj => ([eqV (.pointer (some ⟨g6, 1, none⟩)), eqV (.slice (some ⟨a.block, a.off + 4, none⟩) L (c - 4)), (eqV (.int .u32 (Y : Int))), eqV (.pointer (some ⟨g3, 1, none⟩)), eqV (.int .u32 (Y : Int)), eqV (.bool false), eqV (.bool false), eqV (.slice (some (a.add M)) (N - M) (c - M)), (eqV (.int .u32 (D : Int))), eqV (.pointer (some ⟨g3, 0, none⟩)), eqV (.int .u32 (D : Int)), eqV (.bool false), eqV (.bool false), eqV (.bool false), eqV (.pointer (some ⟨g6, 0, none⟩)), eqV (.int .u32 (q : Int)), eqV (.agg (shl k h).toArray), (eqV (.int .i64 (B2 : Int))), eqV (.int .u32 (B2 : Int)), eqV (.bool true), eqV (.bool true)] : List (Value → World → Prop)).getD jj (fun _ _ => True)) rfl ⟨fun kk => [_, _, _, _, _, _, _, _, _, _, _, _, _, _, _, _, _, _, _, _, _].getD kk undef, rfl⟩ (by kernel_rfl) (by kernel_rfl) ?steps ?fin
  case steps =>
    refine StepsAt.val 0 (.pointer (some ⟨g6, 1, none⟩)) rfl (fun _ _ => rfl) rfl rfl (fun x w9 hb hd => ?_) ?_
    · first | (go_simp; done) | (go_simp; rfl)
    refine StepsAt.val 1 (.slice (some ⟨a.block, a.off + 4, none⟩) L (c - 4)) rfl (fun _ _ => rfl) rfl rfl (fun x w9 hb hd => ?_) ?_
    · have h0 : x 0 = .pointer (some ⟨g6, 1, none⟩) := hd 0 (by kernel_rfl)
      have cc := ((R6.out.below hb R6.out.lt).cell 1).trans rfl
      rw [h0]
      first | (go_simp; done) | (go_simp; rfl)
    refine StepsAt.cons 2 (fun _ _ _ h hb => h) (fun _ _ => rfl) rfl rfl (fun x w9 hb hd K hK => ?_) ?_
    · have h1 : Hid (x 1 = .slice (some ⟨a.block, a.off + 4, none⟩) L (c - 4)) := hd 1 (by kernel_rfl)
      go_simp
      refine calls_args (args2 := #[.slice (some ⟨a.block, a.off + 4, none⟩) L (c - 4)]) (by rw [h1.out]) ?_
      refine (numberL_any w.heap.size _ ((s.drop 4).take L) _ (HO.out.below (hb.mono RB.out.size)) (by rw [List.length_take, List.length_drop, HSL.out]; omega)).mono ?_
      rintro e w5 ⟨rfl, nd, rfl⟩
      rw [HE.out]
      exact hK.out _ _ (below_drewN (Below.refl _ _) _) rfl
    refine StepsAt.val 3 (.pointer (some ⟨g3, 1, none⟩)) rfl (fun _ _ => rfl) rfl rfl (fun x w9 hb hd => ?_) ?_
    · first | (go_simp; done) | (go_simp; rfl)
    refine StepsAt.val 4 (.int .u32 (Y : Int)) rfl (fun _ _ => rfl) rfl rfl (fun x w9 hb hd => ?_) ?_
    · have h3 : x 3 = .pointer (some ⟨g3, 1, none⟩) := hd 3 (by kernel_rfl)
      have cc := ((R3.out.below hb R3.out.lt).cell 1).trans HC1.out
      rw [h3]
      first | (go_simp; done) | (go_simp; rfl)
    refine StepsAt.val 5 (.bool false) rfl (fun _ _ => rfl) rfl rfl (fun x w9 hb hd => ?_) ?_
    · have h2 : x 2 = .int .u32 (Y : Int) := hd 2 (by kernel_rfl)
      have h4 : x 4 = .int .u32 (Y : Int) := hd 4 (by kernel_rfl)
      rw [h2, h4]
      first | (go_simp; done) | (go_simp; rfl)
    refine StepsAt.val 6 (.bool false) rfl (fun _ _ => rfl) rfl rfl (fun x w9 hb hd => ?_) ?_
    · have h5 : x 5 = .bool false := hd 5 (by kernel_rfl)
      rw [h5]
      first | (go_simp; done) | (go_simp; rfl)
    refine StepsAt.valG 7 (.slice (some (a.add M)) (N - M) (c - M)) rfl (fun _ _ => rfl) rfl (fun x w9 hd => ?_) (fun x w9 hb hd => ?_) ?_
    · have hG : x 6 = .bool false := hd 6 (by kernel_rfl)
      simp [Region.wanted, yielded, hG]
    · first | (go_simp; done) | (go_simp; rfl)
    refine StepsAt.consG 8 (fun _ _ _ h hb => h) (fun _ _ => rfl) rfl (fun x w9 hd => ?_) (fun x w9 hb hd K hK => ?_) ?_
    · have hG : x 6 = .bool false := hd 6 (by kernel_rfl)
      simp [Region.wanted, yielded, hG]
    · have h7 : Hid (x 7 = .slice (some (a.add M)) (N - M) (c - M)) := hd 7 (by kernel_rfl)
      go_simp
      refine calls_args (args2 := #[.slice (some (a.add M)) (N - M) (c - M)]) (by rw [h7.out]) ?_
      refine (numberL_any w.heap.size _ (s.drop M) _ (HB.out.below (hb.mono RB.out.size)) (by rw [List.length_drop, HSL.out]; omega)).mono ?_
      rintro e w5 ⟨rfl, nd, rfl⟩
      rw [HG.out]
      exact hK.out _ _ (below_drewN (Below.refl _ _) _) rfl
    refine StepsAt.valG 9 (.pointer (some ⟨g3, 0, none⟩)) rfl (fun _ _ => rfl) rfl (fun x w9 hd => ?_) (fun x w9 hb hd => ?_) ?_
    · have hG : x 6 = .bool false := hd 6 (by kernel_rfl)
      simp [Region.wanted, yielded, hG]
    · first | (go_simp; done) | (go_simp; rfl)
    refine StepsAt.valG 10 (.int .u32 (D : Int)) rfl (fun _ _ => rfl) rfl (fun x w9 hd => ?_) (fun x w9 hb hd => ?_) ?_
    · have hG : x 6 = .bool false := hd 6 (by kernel_rfl)
      simp [Region.wanted, yielded, hG]
    · have h9 : x 9 = .pointer (some ⟨g3, 0, none⟩) := hd 9 (by kernel_rfl)
      have cc := ((R3.out.below hb R3.out.lt).cell 0).trans HC0.out
      rw [h9]
      first | (go_simp; done) | (go_simp; rfl)
    refine StepsAt.valG 11 (.bool false) rfl (fun _ _ => rfl) rfl (fun x w9 hd => ?_) (fun x w9 hb hd => ?_) ?_
    · have hG : x 6 = .bool false := hd 6 (by kernel_rfl)
      simp [Region.wanted, yielded, hG]
    · have h8 : x 8 = .int .u32 (D : Int) := hd 8 (by kernel_rfl)
      have h10 : x 10 = .int .u32 (D : Int) := hd 10 (by kernel_rfl)
      rw [h8, h10]
      first | (go_simp; done) | (go_simp; rfl)
    refine StepsAt.val 12 (.bool false) rfl (fun _ _ => rfl) rfl rfl (fun x w9 hb hd => ?_) ?_
    · have h6 : x 6 = .bool false := hd 6 (by kernel_rfl)
      have h11 : x 11 = .bool false := hd 11 (by kernel_rfl)
      rw [h6, h11]
      first | (go_simp; done) | (go_simp; rfl)
    refine StepsAt.val 13 (.bool false) rfl (fun _ _ => rfl) rfl rfl (fun x w9 hb hd => ?_) ?_
    · have h12 : x 12 = .bool false := hd 12 (by kernel_rfl)
      rw [h12]
      first | (go_simp; done) | (go_simp; rfl)
    refine StepsAt.valG 14 (.pointer (some ⟨g6, 0, none⟩)) rfl (fun _ _ => rfl) rfl (fun x w9 hd => ?_) (fun x w9 hb hd => ?_) ?_
    · have hG : x 13 = .bool false := hd 13 (by kernel_rfl)
      simp [Region.wanted, yielded, hG]
    · first | (go_simp; done) | (go_simp; rfl)
    refine StepsAt.valG 15 (.int .u32 (q : Int)) rfl (fun _ _ => rfl) rfl (fun x w9 hd => ?_) (fun x w9 hb hd => ?_) ?_
    · have hG : x 13 = .bool false := hd 13 (by kernel_rfl)
      simp [Region.wanted, yielded, hG]
    · have h14 : x 14 = .pointer (some ⟨g6, 0, none⟩) := hd 14 (by kernel_rfl)
      have cc := ((R6.out.below hb R6.out.lt).cell 0).trans rfl
      rw [h14]
      first | (go_simp; done) | (go_simp; rfl)
    refine StepsAt.valG 16 (.agg (shl k h).toArray) rfl (fun _ _ => rfl) rfl (fun x w9 hd => ?_) (fun x w9 hb hd => ?_) ?_
    · have hG : x 13 = .bool false := hd 13 (by kernel_rfl)
      simp [Region.wanted, yielded, hG]
    · exact run_load_blkU 74 (.tmp 3) rfl g3 rfl (shl k h) 74 (R3.out.below hb R3.out.lt) d74 HU7.out HD7.out s74
    refine StepsAt.consG 17 (fun _ _ _ h hb => h) (fun _ _ => rfl) rfl (fun x w9 hd => ?_) (fun x w9 hb hd K hK => ?_) ?_
    · have hG : x 13 = .bool false := hd 13 (by kernel_rfl)
      simp [Region.wanted, yielded, hG]
    · have h16 : Hid (x 16 = .agg (shl k h).toArray) := hd 16 (by kernel_rfl)
      go_simp
      refine calls_args (args2 := #[.agg (shl k h).toArray]) (by rw [h16.out]) ?_
      refine (leavesL_any k h _ HH.out).mono ?_
      rintro e w5 ⟨rfl, hb2⟩
      rw [HB2.out]
      exact hK.out _ _ hb2 rfl
    refine StepsAt.valG 18 (.int .u32 (B2 : Int)) rfl (fun _ _ => rfl) rfl (fun x w9 hd => ?_) (fun x w9 hb hd => ?_) ?_
    · have hG : x 13 = .bool false := hd 13 (by kernel_rfl)
      simp [Region.wanted, yielded, hG]
    · have h17 : x 17 = .int .i64 (B2 : Int) := hd 17 (by kernel_rfl)
      rw [h17]
      go_simp
      have := HBL.out
      rw [IntKind.wrap_u32']
      omega
    refine StepsAt.valG 19 (.bool true) rfl (fun _ _ => rfl) rfl (fun x w9 hd => ?_) (fun x w9 hb hd => ?_) ?_
    · have hG : x 13 = .bool false := hd 13 (by kernel_rfl)
      simp [Region.wanted, yielded, hG]
    · have h15 : x 15 = .int .u32 (q : Int) := hd 15 (by kernel_rfl)
      have h18 : x 18 = .int .u32 (B2 : Int) := hd 18 (by kernel_rfl)
      rw [h15, h18]
      first | (go_simp; done) | (go_simp; rfl)
    refine StepsAt.val 20 (.bool true) rfl (fun _ _ => rfl) rfl rfl (fun x w9 hb hd => ?_) ?_
    · have h13 : x 13 = .bool false := hd 13 (by kernel_rfl)
      have h19 : x 19 = .bool true := hd 19 (by kernel_rfl)
      rw [h13, h19]
      first | (go_simp; done) | (go_simp; rfl)
    exact StepsAt.done
  case fin =>
    intro x w9 hb hd
    have h20 : x 20 = .bool true := hd 20 (by omega)
    refine AnyTill.any (S := fun _ => True) (m := 21) _ _ _ _ ?_
    refine AnyTill.done (by kernel_rfl) ?_
    refine NoPanic.normal ?_
    dsimp only
    rw [h20]
    have T6 : Hid (Blk w9 g6 (ptl q (.slice (some ⟨a.block, a.off + 4, none⟩) L (c - 4)) (.slice (some ⟨(a.add M).block, (a.add M).off + 4, none⟩) (N - M - 4) (c - M - 4))) 86) := R6.out.below hb R6.out.lt
    have T4 : Hid (Blk w9 g4 pts0 86) := R4.out.below hb R4.out.lt
    have TB : Hid (Below w.heap.size w w9) := RB.out.trans (hb.mono RB.out.size)
    generalize x 0 = y0
    generalize x 1 = y1
    generalize x 2 = y2
    generalize x 3 = y3
    generalize x 4 = y4
    generalize x 5 = y5
    generalize x 6 = y6
    generalize x 7 = y7
    generalize x 8 = y8
    generalize x 9 = y9
    generalize x 10 = y10
    generalize x 11 = y11
    generalize x 12 = y12
    generalize x 13 = y13
    generalize x 14 = y14
    generalize x 15 = y15
    generalize x 16 = y16
    generalize x 17 = y17
    generalize x 18 = y18
    generalize x 19 = y19
    clear hd h20 hb R3 R4 R6 RB x
    go_wp2
    refine wp_goto ⟨rfl, ?_⟩
    go_wp2_with (first | (refine wpList_buildTo rfl 86 _ rfl (some 53) rfl pts0.toArray (by kernel_rfl) ?_) | (refine wpList_store_blk rfl 86 _ _ rfl g4 pts0 pts0 86 rfl rfl T4.out s86 rfl pts0_one ?_))
    rw [Exit.noGoto_ret]
    refine bodyPost_ret (v := .tuple #[.agg pts0.toArray, .int .i64 3]) ?_ rfl ?_
    · exact ret_blk2U rfl _ _ g4 86 pts0 _ rfl rfl T4.out.setRow d86 HU.out HD.out s86
    · exact ⟨rfl, below_setRow' TB.out hw4 _⟩

set_option maxRecDepth 100000 in
set_option maxHeartbeats 2000000 in
theorem partsIn_yes (v : Value) (s : List UInt8) (k h : Nat) (w : World) (hr : Rd w.heap.size w v s) (hk : Wd k) (hh : Ht h) (hl : s.length = llng k h) (h1 : wd ((s.drop 4).take (lng k)) 0 = typ k) (h2 : wd (s.drop (4 + lng k)) 0 = knd h) (h3 : wd s 0 < 2 ^ h) : Calls Try.prog 45 #[v, .agg (shl k h).toArray] w (fun e w' => ∃ o t, e = .returned (.tuple #[.agg (ptl (wd s 0) o t).toArray, .int .i64 0]) ∧ (∀ B w0, Rd B w0 v s → Rd B w0 o ((s.drop 4).take (lng k)) ∧ Rd B w0 t ((s.drop (4 + lng k)).drop 4)) ∧ Below w.heap.size w w') := by
  have HR := Lib.hid hr
  have HSL := Lib.hid hl
  have hL9 : lng k ≤ 10000 := by have := mny_le k hk; unfold lng; omega
  have hL4 : 4 ≤ lng k := by unfold lng; omega
  obtain ⟨hh1, hh5⟩ := hh.le
  have hNe : llng k h = 4 + lng k + 4 + h * 32 := rfl
  obtain ⟨a, c, hv, hc, hm⟩ := hr.some_ (by omega)
  subst hv
  unfold maxLen at hm
  obtain ⟨L, hL⟩ : ∃ L, lng k = L := ⟨_, rfl⟩
  obtain ⟨N, hN⟩ : ∃ N, llng k h = N := ⟨_, rfl⟩
  rw [hl] at hc HR ⊢
  rw [hN] at hc hNe HR HSL ⊢
  rw [hL] at hNe hL9 hL4
  have HNE := Lib.hid hN
  have HLE := Lib.hid hL
  have HK := Lib.hid hk
  have HH := Lib.hid hh
  have HC2 : Hid (((shl k h)[2]? : Option Value) = some (.int .i64 (L : Int))) := by show _ = _; rw [← hL]; rfl
  obtain ⟨M, hM⟩ : ∃ M, 4 + L = M := ⟨_, rfl⟩
  have zM : 4 + (L : Int) = (M : Int) := by omega
  have hc4 : ¬ c = 4 := by omega
  have hcM : ¬ c = M := by omega
  have hcM4 : ¬ c - M = 4 := by omega
  have hML : M - 4 = L := by omega
  have hMN : M + 4 + 32 ≤ N := by omega
  have HHN : Hid (N - M - 4 = 32 * h) := by show _ = _; omega
  have HMN : Hid (M + 4 + 32 * h = N) := by show _ = _; omega
  have HME := Lib.hid hM
  obtain ⟨d86, hu86, hd86⟩ := row86
  have HU := Lib.hid hu86
  have HD := Lib.hid hd86
  obtain ⟨d74, hu74, hd74⟩ := row74
  have HU7 := Lib.hid hu74
  have HD7 := Lib.hid hd74
  obtain ⟨q, hq⟩ : ∃ q, wd s 0 = q := ⟨_, rfl⟩
  have HQE := Lib.hid hq
  have hq4 : Hid (q < 4294967296) := by show _ < _; rw [← hq]; exact wd_lt _ _
  obtain ⟨Y, hY⟩ : ∃ Y, typ k = Y := ⟨_, rfl⟩
  obtain ⟨D, hD⟩ : ∃ D, knd h = D := ⟨_, rfl⟩
  have HC0 : Hid (((shl k h)[0]? : Option Value) = some (.int .u32 (D : Int))) := by show _ = _; rw [← hD]; rfl
  have HC1 : Hid (((shl k h)[1]? : Option Value) = some (.int .u32 (Y : Int))) := by show _ = _; rw [← hY]; rfl
  have HO0 : Hid (Rd w.heap.size w (.slice (some ⟨a.block, a.off + 4, none⟩) L (c - 4)) ((s.drop 4).take L)) := by
    have e1 := HR.out.drop 4 (by omega)
    rw [if_neg hc4, show a.add 4 = ⟨a.block, a.off + 4, none⟩ by simp [Addr.add]] at e1
    exact e1.take L (by omega)
  have HB0 : Hid (Rd w.heap.size w (.slice (some (a.add M)) (N - M) (c - M)) (s.drop M)) := by
    have e1 := HR.out.drop M (by omega)
    rw [if_neg hcM] at e1
    exact e1
  have HS0 : Hid (Rd w.heap.size w (.slice (some ⟨(a.add M).block, (a.add M).off + 4, none⟩) (N - M - 4) (c - M - 4)) ((s.drop M).drop 4)) := by
    have e1 := HB0.out.drop 4 (by omega)
    rw [if_neg hcM4, show (a.add M).add 4 = ⟨(a.add M).block, (a.add M).off + 4, none⟩ by simp [Addr.add]] at e1
    exact e1
  rw [hL, hY] at h1
  have HE := Lib.hid h1
  clear h1
  rw [hL, hM, hD] at h2
  have HG := Lib.hid h2
  clear h2
  obtain ⟨B2, hB2⟩ : ∃ B, 2 ^ h = B := ⟨_, rfl⟩
  have HBL : Hid (B2 ≤ 32) := by show _ ≤ _; rw [← hB2]; rcases hh with rfl | rfl | rfl | rfl | rfl <;> decide
  have HB2 := Lib.hid hB2
  rw [hq, hB2] at h3
  have z3 : decide ((B2 : Int) ≤ (q : Int)) = false := by simp; omega
  clear hB2
  clear hY hD
  clear hr hl hN hL hk hh hu86 hd86 hu74 hd74 hNe hM hq hh1
  go_enter Try.func45, Try.ntmps45
  go_wp2_with (refine wpList_box_blk rfl 74 _ rfl (shl k h) rfl ?_)
  intro w1 a1 a2 a3
  have A1 := Lib.hid a1
  have A2 := Lib.hid a2
  have A3 := Lib.hid a3
  clear a1 a2 a3
  go_wp2_with (refine wpList_alloc_blk rfl 86 rfl _ zi86 ?_)
  intro w2 a1 a2 a3
  obtain ⟨g3, hg3⟩ : ∃ g, w.heap.size = g := ⟨_, rfl⟩
  obtain ⟨g4, hg4⟩ : ∃ g, w1.heap.size = g := ⟨_, rfl⟩
  have hs1 := A2.out
  have G3 : Hid (Blk w2 g3 (shl k h) 74) := by rw [← hg3]; exact A1.out.below a3 (by omega)
  have G4 : Hid (Blk w2 g4 pts0 86) := by rw [← hg4]; exact a1
  have GB : Hid (Below w.heap.size w w2) := A3.out.trans (a3.mono (by omega))
  have hw4 : w.heap.size ≤ g4 := by omega
  have hw3 : w.heap.size ≤ g3 := by omega
  have hg34 : g3 < g4 := by omega
  rw [hg3, hg4]
  clear a1 a2 a3 A1 A2 A3 hs1 hg3 hg4
  go_wp2
  refine wp_scope_goto 0 rfl ?_
  go_wp2_with (refine wpList_alloc_blk rfl 86 rfl _ zi86 ?_)
  intro w3 a1 a2 a3
  obtain ⟨g6, hg6⟩ : ∃ g, w2.heap.size = g := ⟨_, rfl⟩
  have hg46 : g4 < g6 := by rw [← hg6]; exact G4.out.lt
  have E3 : Hid (Blk w3 g3 (shl k h) 74) := G3.out.below a3 G3.out.lt
  have E4 : Hid (Blk w3 g4 pts0 86) := G4.out.below a3 G4.out.lt
  have E6 : Hid (Blk w3 g6 pts0 86) := by rw [← hg6]; exact a1
  have EB : Hid (Below w.heap.size w w3) := GB.out.trans (a3.mono GB.out.size)
  rw [hg6]
  clear a1 a2 a3 G3 G4 GB hg6
  go_wp2_with (refine wpList_load_blkU rfl 74 _ rfl g3 rfl (shl k h) 74 E3.out d74 HU7.out HD7.out s74 ?_)
  refine (longL_any k h _ HK.out HH.out).mono ?_
  rintro e w4 ⟨rfl, hb⟩
  rw [HNE.out]
  have F3 : Hid (Blk w4 g3 (shl k h) 74) := E3.out.below hb E3.out.lt
  have F4 : Hid (Blk w4 g4 pts0 86) := E4.out.below hb E4.out.lt
  have F6 : Hid (Blk w4 g6 pts0 86) := E6.out.below hb E6.out.lt
  have FB : Hid (Below w.heap.size w w4) := EB.out.trans (hb.mono EB.out.size)
  clear hb E3 E4 E6 EB
  go_wp2_with fail
  refine (numberL_any w.heap.size _ s _ (HR.out.below FB.out) (by rw [HSL.out]; omega)).mono ?_
  rintro e w5' ⟨rfl, nd, hw5⟩
  rw [HQE.out]
  have hb5 : Below w4.heap.size w4 w5' := by rw [hw5]; exact below_drewN (Below.refl _ _) _
  have I3 : Hid (Blk w5' g3 (shl k h) 74) := F3.out.below hb5 F3.out.lt
  have I4 : Hid (Blk w5' g4 pts0 86) := F4.out.below hb5 F4.out.lt
  have I6 : Hid (Blk w5' g6 pts0 86) := F6.out.below hb5 F6.out.lt
  have IB : Hid (Below w.heap.size w w5') := FB.out.trans (hb5.mono FB.out.size)
  have c0 : w5'.cell? ⟨g6, 0, none⟩ = some (.int .u32 0) := (I6.out.cell 0).trans rfl
  have f0 := I6.out.frozen 0
  obtain ⟨V0, hV0⟩ : ∃ V, w5'.setCell ⟨g6, 0, none⟩ (.int .u32 (q : Int)) = V := ⟨_, rfl⟩
  have J6 : Hid (Blk V0 g6 [.int .u32 (q : Int), .slice none 0 0, .slice none 0 0] 86) := by rw [← hV0]; exact I6.out.set 0 _
  have J3 : Hid (Blk V0 g3 (shl k h) 74) := by rw [← hV0]; exact I3.out.setOther _ _ (by show g3 ≠ g6; omega)
  have cL : V0.cell? ⟨g3, 2, none⟩ = some (.int .i64 (L : Int)) := (J3.out.cell 2).trans HC2.out
  have c1 : V0.cell? ⟨g6, 1, none⟩ = some (.slice none 0 0) := (J6.out.cell 1).trans rfl
  have f1 := J6.out.frozen 1
  obtain ⟨V1, hV1⟩ : ∃ V, V0.setCell ⟨g6, 1, none⟩ (.slice (some ⟨a.block, a.off + 4, none⟩) L (c - 4)) = V := ⟨_, rfl⟩
  have P6 : Hid (Blk V1 g6 [.int .u32 (q : Int), .slice (some ⟨a.block, a.off + 4, none⟩) L (c - 4), .slice none 0 0] 86) := by rw [← hV1]; exact J6.out.set 1 _
  have P3 : Hid (Blk V1 g3 (shl k h) 74) := by rw [← hV1]; exact J3.out.setOther _ _ (by show g3 ≠ g6; omega)
  have cL2 : V1.cell? ⟨g3, 2, none⟩ = some (.int .i64 (L : Int)) := (P3.out.cell 2).trans HC2.out
  have c2 : V1.cell? ⟨g6, 2, none⟩ = some (.slice none 0 0) := (P6.out.cell 2).trans rfl
  have f2 := P6.out.frozen 2
  obtain ⟨V2, hV2⟩ : ∃ V, V1.setCell ⟨g6, 2, none⟩ (.slice (some ⟨(a.add M).block, (a.add M).off + 4, none⟩) (N - M - 4) (c - M - 4)) = V := ⟨_, rfl⟩
  have R6 : Hid (Blk V2 g6 (ptl q (.slice (some ⟨a.block, a.off + 4, none⟩) L (c - 4)) (.slice (some ⟨(a.add M).block, (a.add M).off + 4, none⟩) (N - M - 4) (c - M - 4))) 86) := by rw [← hV2]; exact P6.out.set 2 _
  have R3 : Hid (Blk V2 g3 (shl k h) 74) := by rw [← hV2]; exact P3.out.setOther _ _ (by show g3 ≠ g6; omega)
  have R4 : Hid (Blk V2 g4 pts0 86) := by
    rw [← hV2, ← hV1, ← hV0]
    exact ((I4.out.setOther _ _ (by show g4 ≠ g6; omega)).setOther _ _ (by show g4 ≠ g6; omega)).setOther _ _ (by show g4 ≠ g6; omega)
  have RB : Hid (Below w.heap.size w V2) := by
    rw [← hV2, ← hV1, ← hV0]
    exact IB.out.trans ((((But.refl g6 w5').setCell 0 _).setCell 1 _).setCell 2 _ |>.below (by omega) IB.out.size)
  clear hw5 hb5 F3 F4 F6 FB
  go_wp2
  have HO : Hid (Rd w.heap.size V2 (.slice (some ⟨a.block, a.off + 4, none⟩) L (c - 4)) ((s.drop 4).take L)) := HO0.out.below RB.out
  have HB : Hid (Rd w.heap.size V2 (.slice (some (a.add M)) (N - M) (c - M)) (s.drop M)) := HB0.out.below RB.out
  clear c0 f0 c1 f1 c2 f2 cL cL2 hV0 hV1 hV2 I3 I4 I6 IB J3 J6 P3 P6
  refine wp_region_rely2 21 0 (fun x => ⟨#[Value.slice (some a) N c, Value.agg (shl k h).toArray, undef, Value.pointer (some { block := g3, off := 0 }), Value.pointer (some { block := g4, off := 0 }), Value.int IntKind.i64 0, Value.pointer (some { block := g6, off := 0 }), Value.slice (some (a.add M)) (N - M) (c - M), Value.int IntKind.i64 3, Value.slice (some a) N c, Value.int IntKind.i64 ↑N, Value.agg (shl k h).toArray, Value.int IntKind.i64 ↑N, Value.bool false, Value.slice (some a) N c, Value.int IntKind.u32 ↑q, Value.pointer (some { block := g6, off := 0 }), Value.slice (some a) N c, Value.pointer (some { block := g3, off := 2 }), Value.int IntKind.i64 ↑L, Value.int IntKind.i64 ↑M, Value.slice (some { block := a.block, off := a.off + 4 }) L (c - 4), Value.pointer (some { block := g6, off := 1 }), Value.slice (some a) N c, Value.pointer (some { block := g3, off := 2 }), Value.int IntKind.i64 ↑L, Value.int IntKind.i64 ↑M, Value.slice (some (a.add M)) (N - M) (c - M), Value.slice (some (a.add M)) (N - M) (c - M), Value.slice (some { block := (a.add M).block, off := (a.add M).off + 4 }) (N - M - 4) (c - M - 4), Value.pointer (some { block := g6, off := 2 }), x 0, x 1, x 2, x 3, x 4, x 5, x 6, x 7, x 8, x 9, x 10, x 11, x 12, x 13, x 14, x 15, x 16, x 17, x 18, x 19, x 20, undef, undef, undef], []⟩) (fun jj => ([eqV (.pointer (some ⟨g6, 1, none⟩)), eqV (.slice (some ⟨a.block, a.off + 4, none⟩) L (c - 4)), (eqV (.int .u32 (Y : Int))), eqV (.pointer (some ⟨g3, 1, none⟩)), eqV (.int .u32 (Y : Int)), eqV (.bool false), eqV (.bool false), eqV (.slice (some (a.add M)) (N - M) (c - M)), (eqV (.int .u32 (D : Int))), eqV (.pointer (some ⟨g3, 0, none⟩)), eqV (.int .u32 (D : Int)), eqV (.bool false), eqV (.bool false), eqV (.bool false), eqV (.pointer (some ⟨g6, 0, none⟩)), eqV (.int .u32 (q : Int)), eqV (.agg (shl k h).toArray), (eqV (.int .i64 (B2 : Int))), eqV (.int .u32 (B2 : Int)), eqV (.bool false), eqV (.bool false)] : List (Value → World → Prop)).getD jj (fun _ _ => True)) rfl ⟨fun kk => [_, _, _, _, _, _, _, _, _, _, _, _, _, _, _, _, _, _, _, _, _].getD kk undef, rfl⟩ (by kernel_rfl) (by kernel_rfl) ?steps ?fin
  case steps =>
    refine StepsAt.val 0 (.pointer (some ⟨g6, 1, none⟩)) rfl (fun _ _ => rfl) rfl rfl (fun x w9 hb hd => ?_) ?_
    · first | (go_simp; done) | (go_simp; rfl)
    refine StepsAt.val 1 (.slice (some ⟨a.block, a.off + 4, none⟩) L (c - 4)) rfl (fun _ _ => rfl) rfl rfl (fun x w9 hb hd => ?_) ?_
    · have h0 : x 0 = .pointer (some ⟨g6, 1, none⟩) := hd 0 (by kernel_rfl)
      have cc := ((R6.out.below hb R6.out.lt).cell 1).trans rfl
      rw [h0]
      first | (go_simp; done) | (go_simp; rfl)
    refine StepsAt.cons 2 (fun _ _ _ h hb => h) (fun _ _ => rfl) rfl rfl (fun x w9 hb hd K hK => ?_) ?_
    · have h1 : Hid (x 1 = .slice (some ⟨a.block, a.off + 4, none⟩) L (c - 4)) := hd 1 (by kernel_rfl)
      go_simp
      refine calls_args (args2 := #[.slice (some ⟨a.block, a.off + 4, none⟩) L (c - 4)]) (by rw [h1.out]) ?_
      refine (numberL_any w.heap.size _ ((s.drop 4).take L) _ (HO.out.below (hb.mono RB.out.size)) (by rw [List.length_take, List.length_drop, HSL.out]; omega)).mono ?_
      rintro e w5 ⟨rfl, nd, rfl⟩
      rw [HE.out]
      exact hK.out _ _ (below_drewN (Below.refl _ _) _) rfl
    refine StepsAt.val 3 (.pointer (some ⟨g3, 1, none⟩)) rfl (fun _ _ => rfl) rfl rfl (fun x w9 hb hd => ?_) ?_
    · first | (go_simp; done) | (go_simp; rfl)
    refine StepsAt.val 4 (.int .u32 (Y : Int)) rfl (fun _ _ => rfl) rfl rfl (fun x w9 hb hd => ?_) ?_
    · have h3 : x 3 = .pointer (some ⟨g3, 1, none⟩) := hd 3 (by kernel_rfl)
      have cc := ((R3.out.below hb R3.out.lt).cell 1).trans HC1.out
      rw [h3]
      first | (go_simp; done) | (go_simp; rfl)
    refine StepsAt.val 5 (.bool false) rfl (fun _ _ => rfl) rfl rfl (fun x w9 hb hd => ?_) ?_
    · have h2 : x 2 = .int .u32 (Y : Int) := hd 2 (by kernel_rfl)
      have h4 : x 4 = .int .u32 (Y : Int) := hd 4 (by kernel_rfl)
      rw [h2, h4]
      first | (go_simp; done) | (go_simp; rfl)
    refine StepsAt.val 6 (.bool false) rfl (fun _ _ => rfl) rfl rfl (fun x w9 hb hd => ?_) ?_
    · have h5 : x 5 = .bool false := hd 5 (by kernel_rfl)
      rw [h5]
      first | (go_simp; done) | (go_simp; rfl)
    refine StepsAt.valG 7 (.slice (some (a.add M)) (N - M) (c - M)) rfl (fun _ _ => rfl) rfl (fun x w9 hd => ?_) (fun x w9 hb hd => ?_) ?_
    · have hG : x 6 = .bool false := hd 6 (by kernel_rfl)
      simp [Region.wanted, yielded, hG]
    · first | (go_simp; done) | (go_simp; rfl)
    refine StepsAt.consG 8 (fun _ _ _ h hb => h) (fun _ _ => rfl) rfl (fun x w9 hd => ?_) (fun x w9 hb hd K hK => ?_) ?_
    · have hG : x 6 = .bool false := hd 6 (by kernel_rfl)
      simp [Region.wanted, yielded, hG]
    · have h7 : Hid (x 7 = .slice (some (a.add M)) (N - M) (c - M)) := hd 7 (by kernel_rfl)
      go_simp
      refine calls_args (args2 := #[.slice (some (a.add M)) (N - M) (c - M)]) (by rw [h7.out]) ?_
      refine (numberL_any w.heap.size _ (s.drop M) _ (HB.out.below (hb.mono RB.out.size)) (by rw [List.length_drop, HSL.out]; omega)).mono ?_
      rintro e w5 ⟨rfl, nd, rfl⟩
      rw [HG.out]
      exact hK.out _ _ (below_drewN (Below.refl _ _) _) rfl
    refine StepsAt.valG 9 (.pointer (some ⟨g3, 0, none⟩)) rfl (fun _ _ => rfl) rfl (fun x w9 hd => ?_) (fun x w9 hb hd => ?_) ?_
    · have hG : x 6 = .bool false := hd 6 (by kernel_rfl)
      simp [Region.wanted, yielded, hG]
    · first | (go_simp; done) | (go_simp; rfl)
    refine StepsAt.valG 10 (.int .u32 (D : Int)) rfl (fun _ _ => rfl) rfl (fun x w9 hd => ?_) (fun x w9 hb hd => ?_) ?_
    · have hG : x 6 = .bool false := hd 6 (by kernel_rfl)
      simp [Region.wanted, yielded, hG]
    · have h9 : x 9 = .pointer (some ⟨g3, 0, none⟩) := hd 9 (by kernel_rfl)
      have cc := ((R3.out.below hb R3.out.lt).cell 0).trans HC0.out
      rw [h9]
      first | (go_simp; done) | (go_simp; rfl)
    refine StepsAt.valG 11 (.bool false) rfl (fun _ _ => rfl) rfl (fun x w9 hd => ?_) (fun x w9 hb hd => ?_) ?_
    · have hG : x 6 = .bool false := hd 6 (by kernel_rfl)
      simp [Region.wanted, yielded, hG]
    · have h8 : x 8 = .int .u32 (D : Int) := hd 8 (by kernel_rfl)
      have h10 : x 10 = .int .u32 (D : Int) := hd 10 (by kernel_rfl)
      rw [h8, h10]
      first | (go_simp; done) | (go_simp; rfl)
    refine StepsAt.val 12 (.bool false) rfl (fun _ _ => rfl) rfl rfl (fun x w9 hb hd => ?_) ?_
    · have h6 : x 6 = .bool false := hd 6 (by kernel_rfl)
      have h11 : x 11 = .bool false := hd 11 (by kernel_rfl)
      rw [h6, h11]
      first | (go_simp; done) | (go_simp; rfl)
    refine StepsAt.val 13 (.bool false) rfl (fun _ _ => rfl) rfl rfl (fun x w9 hb hd => ?_) ?_
    · have h12 : x 12 = .bool false := hd 12 (by kernel_rfl)
      rw [h12]
      first | (go_simp; done) | (go_simp; rfl)
    refine StepsAt.valG 14 (.pointer (some ⟨g6, 0, none⟩)) rfl (fun _ _ => rfl) rfl (fun x w9 hd => ?_) (fun x w9 hb hd => ?_) ?_
    · have hG : x 13 = .bool false := hd 13 (by kernel_rfl)
      simp [Region.wanted, yielded, hG]
    · first | (go_simp; done) | (go_simp; rfl)
    refine StepsAt.valG 15 (.int .u32 (q : Int)) rfl (fun _ _ => rfl) rfl (fun x w9 hd => ?_) (fun x w9 hb hd => ?_) ?_
    · have hG : x 13 = .bool false := hd 13 (by kernel_rfl)
      simp [Region.wanted, yielded, hG]
    · have h14 : x 14 = .pointer (some ⟨g6, 0, none⟩) := hd 14 (by kernel_rfl)
      have cc := ((R6.out.below hb R6.out.lt).cell 0).trans rfl
      rw [h14]
      first | (go_simp; done) | (go_simp; rfl)
    refine StepsAt.valG 16 (.agg (shl k h).toArray) rfl (fun _ _ => rfl) rfl (fun x w9 hd => ?_) (fun x w9 hb hd => ?_) ?_
    · have hG : x 13 = .bool false := hd 13 (by kernel_rfl)
      simp [Region.wanted, yielded, hG]
    · exact run_load_blkU 74 (.tmp 3) rfl g3 rfl (shl k h) 74 (R3.out.below hb R3.out.lt) d74 HU7.out HD7.out s74
    refine StepsAt.consG 17 (fun _ _ _ h hb => h) (fun _ _ => rfl) rfl (fun x w9 hd => ?_) (fun x w9 hb hd K hK => ?_) ?_
    · have hG : x 13 = .bool false := hd 13 (by kernel_rfl)
      simp [Region.wanted, yielded, hG]
    · have h16 : Hid (x 16 = .agg (shl k h).toArray) := hd 16 (by kernel_rfl)
      go_simp
      refine calls_args (args2 := #[.agg (shl k h).toArray]) (by rw [h16.out]) ?_
      refine (leavesL_any k h _ HH.out).mono ?_
      rintro e w5 ⟨rfl, hb2⟩
      rw [HB2.out]
      exact hK.out _ _ hb2 rfl
    refine StepsAt.valG 18 (.int .u32 (B2 : Int)) rfl (fun _ _ => rfl) rfl (fun x w9 hd => ?_) (fun x w9 hb hd => ?_) ?_
    · have hG : x 13 = .bool false := hd 13 (by kernel_rfl)
      simp [Region.wanted, yielded, hG]
    · have h17 : x 17 = .int .i64 (B2 : Int) := hd 17 (by kernel_rfl)
      rw [h17]
      go_simp
      have := HBL.out
      rw [IntKind.wrap_u32']
      omega
    refine StepsAt.valG 19 (.bool false) rfl (fun _ _ => rfl) rfl (fun x w9 hd => ?_) (fun x w9 hb hd => ?_) ?_
    · have hG : x 13 = .bool false := hd 13 (by kernel_rfl)
      simp [Region.wanted, yielded, hG]
    · have h15 : x 15 = .int .u32 (q : Int) := hd 15 (by kernel_rfl)
      have h18 : x 18 = .int .u32 (B2 : Int) := hd 18 (by kernel_rfl)
      rw [h15, h18]
      first | (go_simp; done) | (go_simp; rfl)
    refine StepsAt.val 20 (.bool false) rfl (fun _ _ => rfl) rfl rfl (fun x w9 hb hd => ?_) ?_
    · have h13 : x 13 = .bool false := hd 13 (by kernel_rfl)
      have h19 : x 19 = .bool false := hd 19 (by kernel_rfl)
      rw [h13, h19]
      first | (go_simp; done) | (go_simp; rfl)
    exact StepsAt.done
  case fin =>
    intro x w9 hb hd
    have h20 : x 20 = .bool false := hd 20 (by omega)
    refine AnyTill.any (S := fun _ => True) (m := 21) _ _ _ _ ?_
    refine AnyTill.done (by kernel_rfl) ?_
    refine NoPanic.normal ?_
    dsimp only
    rw [h20]
    have T6 : Hid (Blk w9 g6 (ptl q (.slice (some ⟨a.block, a.off + 4, none⟩) L (c - 4)) (.slice (some ⟨(a.add M).block, (a.add M).off + 4, none⟩) (N - M - 4) (c - M - 4))) 86) := R6.out.below hb R6.out.lt
    have T4 : Hid (Blk w9 g4 pts0 86) := R4.out.below hb R4.out.lt
    have TB : Hid (Below w.heap.size w w9) := RB.out.trans (hb.mono RB.out.size)
    generalize x 0 = y0
    generalize x 1 = y1
    generalize x 2 = y2
    generalize x 3 = y3
    generalize x 4 = y4
    generalize x 5 = y5
    generalize x 6 = y6
    generalize x 7 = y7
    generalize x 8 = y8
    generalize x 9 = y9
    generalize x 10 = y10
    generalize x 11 = y11
    generalize x 12 = y12
    generalize x 13 = y13
    generalize x 14 = y14
    generalize x 15 = y15
    generalize x 16 = y16
    generalize x 17 = y17
    generalize x 18 = y18
    generalize x 19 = y19
    clear hd h20 hb R3 R4 R6 RB x
    go_wp2_with (first | (refine wpList_load_blkU rfl 86 _ rfl g6 rfl (ptl q (.slice (some ⟨a.block, a.off + 4, none⟩) L (c - 4)) (.slice (some ⟨(a.add M).block, (a.add M).off + 4, none⟩) (N - M - 4) (c - M - 4))) 86 T6.out d86 HU.out HD.out s86 ?_) | (refine wpList_store_blk rfl 86 _ _ rfl g4 (ptl q (.slice (some ⟨a.block, a.off + 4, none⟩) L (c - 4)) (.slice (some ⟨(a.add M).block, (a.add M).off + 4, none⟩) (N - M - 4) (c - M - 4))) pts0 86 rfl rfl T4.out s86 rfl (ptl_one _ _ _ _ _ _ _) ?_))
    rw [jump_ret]
    refine bodyPost_ret (v := .tuple #[.agg (ptl q (.slice (some ⟨a.block, a.off + 4, none⟩) L (c - 4)) (.slice (some ⟨(a.add M).block, (a.add M).off + 4, none⟩) (N - M - 4) (c - M - 4))).toArray, .int .i64 0]) ?_ rfl ?_
    · exact ret_blk2U rfl _ _ g4 86 (ptl q (.slice (some ⟨a.block, a.off + 4, none⟩) L (c - 4)) (.slice (some ⟨(a.add M).block, (a.add M).off + 4, none⟩) (N - M - 4) (c - M - 4))) _ rfl rfl T4.out.setRow d86 HU.out HD.out s86
    · refine ⟨_, _, by rw [HQE.out], fun B w0 hB0 => ⟨?_, ?_⟩, below_setRow' TB.out hw4 _⟩
      · rw [HLE.out]
        have e1 := hB0.drop 4 (by omega)
        rw [if_neg hc4, show a.add 4 = ⟨a.block, a.off + 4, none⟩ by simp [Addr.add]] at e1
        exact e1.take L (by omega)
      · rw [HLE.out, HME.out]
        have e1 := hB0.drop M (by omega)
        rw [if_neg hcM] at e1
        have e2 := e1.drop 4 (by omega)
        rw [if_neg hcM4, show (a.add M).add 4 = ⟨(a.add M).block, (a.add M).off + 4, none⟩ by simp [Addr.add]] at e2
        exact e2

end Go.Proofs.Ytnemkefmlffigaa

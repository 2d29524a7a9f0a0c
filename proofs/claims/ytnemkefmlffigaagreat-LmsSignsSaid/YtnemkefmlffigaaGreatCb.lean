/-
  Package ots: shapeIn, for every slice of bytes.
-/
import Derived.Test.YtnemkefmlffigaaGreatCa
namespace Go.Proofs.YtnemkefmlffigaaGreat
open Go.RowKit

/-- The bytes have the type and the length of a signature of width k. -/
def Fits (s : List UInt8) (k : Nat) : Prop := Wd k ∧ typ k = wd (s.take 4) 0 ∧ s.length = lng k
/-- Three answers, and no old memory has changed. -/
def Three (x y z : Value) (w : World) (e : Ending) (w' : World) : Prop := e = .returned (.tuple #[x, y, z]) ∧ Below w.heap.size w w'

theorem Dt_inv (x c : Int) (h : ∀ zd, Dt.atKey (.int .i64 x) zd = .lit (.int .u32 c)) : ∃ k : Nat, Wd k ∧ x = (k : Int) ∧ c = ((typ k : Nat) : Int) := by
  have key : ∀ k : Nat, Wd k → x = (k : Int) → ∃ k : Nat, Wd k ∧ x = (k : Int) ∧ c = ((typ k : Nat) : Int) := fun k hk hx => by
    subst hx
    have h1 := h .nil
    rw [typ_at k hk] at h1
    injection h1 with h1
    injection h1 with _ h1
    exact ⟨k, hk, rfl, h1.symm⟩
  by_cases h1 : x = 1
  · exact key 1 (by simp [Wd]) h1
  by_cases h2 : x = 2
  · exact key 2 (by simp [Wd]) h2
  by_cases h4 : x = 4
  · exact key 4 (by simp [Wd]) h4
  by_cases h8 : x = 8
  · exact key 8 (by simp [Wd]) h8
  have e1 := h .nil
  have n1 : ¬ (1 : Int) = x := fun e => h1 e.symm
  have n2 : ¬ (2 : Int) = x := fun e => h2 e.symm
  have n4 : ¬ (4 : Int) = x := fun e => h4 e.symm
  have n8 : ¬ (8 : Int) = x := fun e => h8 e.symm
  simp [Dt, DataW.atKey, Lit.sameKey, List.find?, n1, n2, n4, n8] at e1
theorem Dt_has (k : Nat) (hk : Wd k) : Maps.has Dt (.int .i64 (k : Int)) = true := by
  rcases hk with rfl | rfl | rfl | rfl <;> rfl
theorem wd_wf (k : Nat) (hk : Wd k) : typ k ≤ 4 := by rcases hk with rfl | rfl | rfl | rfl <;> decide

/-- What the loop of shapeIn keeps. -/
def ShAt (w : World) (N : Nat) (B r g3 : Nat) (left : Lit → Bool) (cnt : Nat) (wr : World) : Prop :=
  wr.ranges Tryz.prog 3 (plainElem (H := Unit) Tryz.prog 48) B r 4 Dt left cnt ∧ Blk wr g3 shp0 96 ∧ Below w.heap.size w wr ∧ (∀ k, Wd k → typ k = N → left (.int .i64 (k : Int)) = true)

theorem ret_blk3U {P : Program} {fn : Func} {p u v : Tmp} {ty : TypeId} (h : fn.results = #[.tmp v, .cell p ty, .tmp u]) (tmps : Array Value) (w : World) (g : Nat) (t : TypeId) (cs : List Value) (x y : Value)
    (hp : tmps.getD p undef = .pointer (some ⟨g, 0, none⟩)) (hx : tmps.getD v undef = x) (hv : tmps.getD u undef = y) (hb : Blk w g cs t) (d : TypeDesc) (hu : P.underlying ty = some d) (hd : d.isRow = true) (hi : (P.info? ty).map (·.size) = some cs.length) :
    (results fn tmps).run P w = .ok (.tuple #[x, .agg cs.toArray, y]) w := by
  have hl := run_loadVar_row w g t ty cs.toArray (0, 0) d hb hu (by cases d <;> first | rfl | cases hd) (by simpa using hi)
  have hp' : tmps[p]?.getD undef = .pointer (some ⟨g, 0, none⟩) := by simpa using hp
  have hx' : tmps[v]?.getD undef = x := by simpa using hx
  have hv' : tmps[u]?.getD undef = y := by simpa using hv
  simp [results, h, Result.andThen, hp', hx', hv', asAddr, hl]

set_option maxRecDepth 100000 in
set_option maxHeartbeats 1000000 in
theorem shapeIn_short (v : Value) (s : List UInt8) (w : World) (hr : Rd w.heap.size w v s) (hs : s.length < 4) : Calls Tryz.prog 73 #[v] w (Three (.int .i64 0) (.agg shp0.toArray) (.int .i64 2) w) := by
  obtain ⟨A, c, rfl, hc, hm⟩ := hr.shape
  unfold maxLen at hm
  obtain ⟨d57, hu57, hd57⟩ := row57
  have HU := Lib.hid hu57
  have HD := Lib.hid hd57
  have zs : (s.length : Int) < 4 := by omega
  clear hu57 hd57 hr
  go_enter Tryz.func73, Tryz.ntmps73
  go_wp2_with (refine wpList_alloc_blk rfl 96 rfl _ zi57 ?_)
  intro w1 a1 a2 a3
  have A1 := Lib.hid a1
  have A3 := Lib.hid a3
  clear a1 a2 a3
  go_wp2
  refine wp_scope_goto 0 rfl ?_
  go_wp2
  refine wp_goto ⟨rfl, ?_⟩
  go_wp2_with (refine wpList_store_blk rfl 96 _ _ rfl w.heap.size shp0 shp0 96 rfl rfl A1.out s57 rfl shp0_one ?_)
  rw [Exit.noGoto_ret]
  refine bodyPost_ret (v := .tuple #[.int .i64 0, .agg shp0.toArray, .int .i64 2]) ?_ rfl ?_
  · exact ret_blk3U rfl _ _ w.heap.size 96 shp0 _ _ rfl rfl rfl A1.out.setRow d57 HU.out HD.out s57
  · exact ⟨rfl, below_setRow' A3.out (Nat.le_refl _) _⟩

/-- What shapeIn answers of bytes that are not too short. -/
def ShapeIs (s : List UInt8) (w : World) (e : Ending) (w' : World) : Prop :=
  (∃ k, Fits s k ∧ Three (.int .i64 (k : Int)) (.agg (shp k).toArray) (.int .i64 0) w e w') ∨ ((∀ k, ¬ Fits s k) ∧ Three (.int .i64 0) (.agg shp0.toArray) (.int .i64 3) w e w')

theorem wpList_load_blkUG {P : Program} {w : World} {ops : Array Oper} {rest : List Oper} {o : Oper} {a : Act} {Q : Exit → Act → World → Prop} (t : TypeId) (x : Operand) (ho : o.op = .load t x) (g : Nat) (hx : a.eval x = .pointer (some ⟨g, 0, none⟩)) (cs : List Value) (u : TypeId) (hb : Blk w g cs u)
    (d : TypeDesc) (hu : P.underlying t = some d) (hd : d.isRow = true) (hi : (P.info? t).map (·.size) = some cs.length) (hw : Region.wanted o (yielded ops a.tmps) = true)
    (h : wpList P ops Q rest (a.put o.dst (.agg cs.toArray)) w) : wpList P ops Q (o :: rest) a w := by
  refine BigFrame.wpList_want hw (fun K hK => ?_)
  unfold Oper.wp
  rw [run_load_blkU t x ho g hx cs u hb d hu hd hi]
  exact hK _ _ h

set_option maxRecDepth 100000 in
set_option maxHeartbeats 2000000 in
theorem shapeIn_any (v : Value) (s : List UInt8) (w : World) (hr : Rd w.heap.size w v s) (hs : 4 ≤ s.length) (hl : s.length ≤ 1000000) : Calls Tryz.prog 73 #[v] w (ShapeIs s w) := by
  have HR := Lib.hid hr
  obtain ⟨a, c, rfl, hc, hm⟩ := hr.some_ (by omega)
  unfold maxLen at hm
  obtain ⟨n, hn⟩ : ∃ n, s.length = n := ⟨_, rfl⟩
  have HN := Lib.hid hn
  rw [hn] at hs hl hc HR ⊢
  obtain ⟨N, hNN⟩ : ∃ N, wd (s.take 4) 0 = N := ⟨_, rfl⟩
  have HNN := Lib.hid hNN
  obtain ⟨d57, hu57, hd57⟩ := row57
  have HU := Lib.hid hu57
  have HD := Lib.hid hd57
  have zs : decide ((n : Int) < 4) = false := by simp; omega
  clear hu57 hd57 hr hn hNN
  go_enter Tryz.func73, Tryz.ntmps73
  go_wp2_with (refine wpList_alloc_blk rfl 96 rfl _ zi57 ?_)
  intro w1 a1 a2 a3
  obtain ⟨g3, hg3⟩ : ∃ g, w.heap.size = g := ⟨_, rfl⟩
  rw [hg3] at a1 a2 a3 ⊢
  have A1 := Lib.hid a1
  have hs1 : g3 < w1.heap.size := by omega
  have A3 : Hid (Below w.heap.size w w1) := by rw [hg3]; exact a3
  have hw3 : w.heap.size ≤ g3 := by omega
  clear a1 a2 a3 hg3
  go_wp2
  refine wp_scope_goto 0 rfl ?_
  go_wp2_with fail
  refine (types_any _).mono ?_
  rintro e w2 ⟨B, rfl, hown, hb2, hB⟩
  have O2 := Lib.hid hown
  have E1 : Hid (Blk w2 g3 shp0 96) := A1.out.below hb2 hs1
  have EB : Hid (Below w.heap.size w w2) := A3.out.trans (hb2.mono (by omega))
  have hBg : w.heap.size ≤ B := by omega
  clear hown hb2 A1 A3 hs1 hB
  go_wp2_with (first | (at_range; refine wpList_range_own _ rfl _ 119 rfl 3 48 law3 Tryz.underlying119 _ B 4 Dt rfl O2.out ?_))
  intro w0 hrg0 hg0 hsz0
  obtain ⟨r, hr0⟩ : ∃ r, w2.heap.size = r := ⟨_, rfl⟩
  rw [hr0] at hrg0 hsz0 ⊢
  have hrw : w.heap.size ≤ r := by rw [← hr0]; exact EB.out.size
  have hb0 : Below w2.heap.size w2 w0 := ⟨hg0.os, hg0.tape, hg0.output, hg0.size, fun k hk => hg0.block k hk (by simp)⟩
  have hr3 : g3 < r := by rw [← hr0]; exact E1.out.lt
  have K0 : Hid (ShAt w N B r g3 (Maps.has Dt) (Maps.size Dt) w0) := ⟨hrg0, E1.out.below hb0 E1.out.lt, EB.out.trans (hb0.mono EB.out.size), fun k hk _ => Dt_has k hk⟩
  clear hrg0 hg0 hsz0 hr0 hb0 E1 EB O2
  go_wp2
  go_loopw [6] (fun _ wr => ∃ left cnt, Hid (ShAt w N B r g3 left cnt wr)) (fun _ wr => wr.rangeLeft B r)
  case atStart => exact ⟨_, _, K0⟩
  case round =>
    clear K0
    obtain ⟨left, cnt, K⟩ := hrel
    go_wp2_with (at_next; refine wpList_next_ranges_ii _ rfl _ rfl 3 48 .i64 .u32 law3 Tryz.underlying3 Tryz.underlying48 B r 4 _ _ _ rfl K.out.1 ?_ ?_)
    · intro _ hl0
      have hno : ∀ k, ¬ Fits s k := fun k ⟨h1, h2, _⟩ => by
        have := K.out.2.2.2 k h1 (by rw [h2]; exact HNN.out)
        rw [hl0] at this
        cases this
      have HNO := Lib.hid hno
      have X1 : Hid (Blk wr g3 shp0 96) := K.out.2.1
      have XB : Hid (Below w.heap.size w wr) := K.out.2.2.1
      clear hl0 hno K
      go_wp2
      go_step3
      go_wp2_with (refine wpList_store_blk rfl 96 _ _ rfl g3 shp0 shp0 96 rfl rfl X1.out s57 rfl shp0_one ?_)
      rw [jump_ret]
      refine bodyPost_ret (v := .tuple #[.int .i64 0, .agg shp0.toArray, .int .i64 3]) ?_ rfl ?_
      · exact ret_blk3U rfl _ _ g3 96 shp0 _ _ rfl rfl rfl X1.out.setRow d57 HU.out HD.out s57
      · exact .inr ⟨HNO.out, rfl, below_setRow' XB.out (by omega) _⟩
    · intro x cc w4 cnt1 hwx hwc hlx hat hrg1 hlt hg1 hs1 hen
      obtain ⟨k, hk, rfl, rfl⟩ := Dt_inv x cc hat
      have HK := Lib.hid hk
      have hY := wd_wf k hk
      obtain ⟨Y, hYe⟩ : ∃ Y, typ k = Y := ⟨_, rfl⟩
      have HYE := Lib.hid hYe
      have X1 : Hid (Blk w4 g3 shp0 96) := by
        have h := K.out.2.1
        unfold Hid Blk
        rw [hg1.block g3 h.lt (by simp; omega)]
        exact h
      have XB : Hid (Below w.heap.size w w4) := K.out.2.2.1.grown hg1 K.out.2.2.1.size (fun j hj => by cases hj; exact hrw)
      have HRG := Lib.hid hrg1
      have HLEFT : Hid (∀ k', Wd k' → typ k' = N → k' ≠ k → (left (.int .i64 (k' : Int)) && !(Lit.int .i64 (k' : Int)).sameKey (.int .i64 (k : Int))) = true) := fun k' h1 h2 h3 => by
        rw [K.out.2.2.2 k' h1 h2]
        have : ¬ (k' : Int) = (k : Int) := by omega
        simp [Lit.sameKey, this]
      have HMEAS : Hid (w4.rangeLeft B r < wr.rangeLeft B r) := by
        show _ < _
        rw [hrg1.left_eq, K.out.1.left_eq]; exact hlt
      rw [hYe] at hY ⊢
      rw [hYe] at hen
      clear hk hwx hwc hlx hat hrg1 hlt hg1 hs1 hYe K
      go_wp2_with fail
      clear hen
      refine (numberO_any w.heap.size _ (s.take 4) _ ((HR.out.below XB.out).take 4 hs) (by rw [List.length_take, HN.out]; omega)).mono ?_
      rintro e w5 ⟨rfl, nd, rfl⟩
      rw [HNN.out]
      have Y1 : Hid (Blk (w4.drewN nd) g3 shp0 96) := X1.out
      have YB : Hid (Below w.heap.size w (w4.drewN nd)) := Below.drewN' XB.out
      have YRG : Hid ((w4.drewN nd).ranges Tryz.prog 3 (plainElem (H := Unit) Tryz.prog 48) B r 4 Dt (fun z => left z && !z.sameKey (.int .i64 (k : Int))) cnt1) := HRG.out
      have YME : Hid ((w4.drewN nd).rangeLeft B r < wr.rangeLeft B r) := HMEAS.out
      generalize w4.drewN nd = w5 at Y1 YB YRG YME ⊢
      clear X1 XB HRG HMEAS
      by_cases hkN : Y = N
      · subst hkN
        go_wp2_with fail
        refine (shapeOf_yes k _ HK.out).mono ?_
        rintro e w6 ⟨rfl, hb⟩
        have Z1 : Hid (Blk w6 g3 shp0 96) := Y1.out.below hb Y1.out.lt
        have ZB : Hid (Below w.heap.size w w6) := YB.out.trans (hb.mono YB.out.size)
        clear hb Y1 YB YRG YME
        go_wp2_with (refine wpList_alloc_blk rfl 96 rfl _ zi57 ?_)
        intro w7 a1 a2 a3
        obtain ⟨gS, hgS⟩ : ∃ g, w6.heap.size = g := ⟨_, rfl⟩
        rw [hgS] at a1 a2 a3 ⊢
        have hg3S : g3 < gS := by rw [← hgS]; exact Z1.out.lt
        have A1 := Lib.hid a1
        obtain ⟨t7, ht7⟩ : ∃ t, w7.setRow gS (shp k).toArray = t := ⟨_, rfl⟩
        have T1 : Hid (Blk t7 g3 shp0 96) := by rw [← ht7]; exact (Z1.out.below a3 (by omega)).setRowOther (by omega)
        have T2 : Hid (Blk t7 gS (shp k) 96) := by rw [← ht7]; exact a1.setRow
        have TB : Hid (Below w.heap.size w t7) := by have := ZB.out.size; rw [← ht7]; exact below_setRow' (ZB.out.trans (a3.mono (by omega))) (by omega) _
        clear a1 a2 a3 hgS Z1 ZB
        go_wp2_with (first | (refine wpList_store_blk rfl 96 _ _ rfl gS (shp k) shp0 96 rfl rfl A1.out s57 rfl (shp_one k) ?_; rw [ht7]) | (refine wpList_load_blkUG 96 _ rfl gS rfl (shp k) 96 T2.out d57 HU.out HD.out s57 (by rfl) ?_))
        clear A1 ht7
        refine (long_any k _ HK.out).mono ?_
        rintro e w8 ⟨rfl, hb⟩
        obtain ⟨L, hL⟩ : ∃ L, lng k = L := ⟨_, rfl⟩
        rw [hL]
        have HLE := Lib.hid hL
        have V1 : Hid (Blk w8 g3 shp0 96) := T1.out.below hb T1.out.lt
        have V2 : Hid (Blk w8 gS (shp k) 96) := T2.out.below hb T2.out.lt
        have VB : Hid (Below w.heap.size w w8) := TB.out.trans (hb.mono TB.out.size)
        clear hb T1 T2 TB hL
        by_cases hnL : n = L
        · subst hnL
          have HF : Hid (Fits s k) := ⟨HK.out, by rw [HYE.out, HNN.out], by rw [HN.out, HLE.out]⟩
          go_wp2
          refine wp_region_rely3 3 2 (fun x => ⟨#[Value.slice (some a) n c, undef, x 2, Value.pointer (some { block := g3, off := 0 }), u4, Value.int IntKind.i64 3, Value.int IntKind.i64 ↑k, Value.int IntKind.u32 ↑Y, Value.pointer (some { block := gS, off := 0 }), Value.int IntKind.i64 0, Value.slice (some a) n c, Value.int IntKind.i64 ↑n, Value.bool false, Value.map (some B), Value.pointer (some { block := r, off := 0 }), Value.tuple #[Value.bool true, Value.int IntKind.i64 ↑k, Value.int IntKind.u32 ↑Y], Value.bool true, Value.tuple #[Value.int IntKind.i64 ↑k, Value.int IntKind.u32 ↑Y], Value.int IntKind.i64 ↑k, Value.int IntKind.u32 ↑Y, Value.int IntKind.u32 ↑Y, Value.slice (some a) n c, Value.slice (some a) 4 c, Value.int IntKind.u32 ↑Y, Value.bool false, Value.tuple #[Value.agg (shp k).toArray, Value.int IntKind.i64 0], Value.int IntKind.i64 ↑k, Value.tuple #[Value.agg (shp k).toArray, Value.int IntKind.i64 0], Value.agg (shp k).toArray, Value.int IntKind.i64 0, Value.int IntKind.i64 0, Value.bool false, Value.bool false, Value.slice (some a) n c, Value.int IntKind.i64 ↑n, Value.agg (shp k).toArray, Value.int IntKind.i64 ↑n, Value.bool false, Value.bool false, x 0, x 1, undef, undef], []⟩) (fun jj => ([eqV (.int .i64 (k : Int)), eqV (.agg (shp k).toArray), eqV (.int .i64 (k : Int))] : List (Value → World → Prop)).getD jj (fun _ _ => True)) rfl ⟨fun kk => [_, _, _].getD kk undef, rfl⟩ (by kernel_rfl) (by kernel_rfl) ?steps ?fin
          case steps =>
            refine StepsAt.val 0 (.int .i64 (k : Int)) rfl (fun _ _ => rfl) rfl rfl (fun x w1 hb hd => ?_) ?_
            · first | (go_simp; done) | (go_simp; rfl)
            refine StepsAt.val 1 (.agg (shp k).toArray) rfl (fun _ _ => rfl) rfl rfl (fun x w1 hb hd => ?_) ?_
            · exact run_load_blkU 96 (.tmp 8) rfl gS rfl (shp k) 96 (V2.out.below hb V2.out.lt) d57 HU.out HD.out s57
            refine StepsAt.val 2 (.int .i64 (k : Int)) rfl (fun _ _ => rfl) rfl rfl (fun x w1 hb hd => ?_) ?_
            · have h0 : x 0 = .int .i64 (k : Int) := hd 0 (by kernel_rfl)
              rw [h0]
              first | (go_simp; done) | (go_simp; rfl)
            exact StepsAt.done
          case fin =>
            intro x w1 hb hd
            have h1 : x 1 = .agg (shp k).toArray := hd 1 (by omega)
            have h2 : x 2 = .int .i64 (k : Int) := hd 2 (by omega)
            refine AnyTill.any (S := fun _ => True) (m := 5) _ _ _ _ ?_
            refine AnyTill.one (i := 3) (by kernel_rfl) rfl (by rfl) (fun K hK => ?_)
            refine wp_store_blk 96 (.tmp 3) (.tmp 40) rfl g3 (shp k) shp0 96 rfl h1 (V1.out.below hb V1.out.lt) s57 rfl (shp_one k) ?_
            refine hK.out _ _ (.inr trivial) ?_
            clear hK K
            refine AnyTill.one (i := 4) (by kernel_rfl) rfl (by rfl) (fun K hK => ?_)
            refine hK.out _ _ (.inr trivial) ?_
            clear hK K
            refine AnyTill.done (by kernel_rfl) ?_
            refine NoPanic.normal ?_
            simp only [Act.put, Act.eval, List.setIfInBounds_toArray, List.set_cons_zero, List.set_cons_succ]
            rw [h2]
            have L0 : Hid (Blk (w1.setRow g3 (shp k).toArray) g3 (shp k) 96) := (V1.out.below hb V1.out.lt).setRow
            have LB : Hid (Below w.heap.size w (w1.setRow g3 (shp k).toArray)) := below_setRow' (VB.out.trans (hb.mono VB.out.size)) (by omega) _
            clear hd h1 h2
            go_wp2
            rw [jump_ret]
            refine bodyPost_ret (v := .tuple #[.int .i64 (k : Int), .agg (shp k).toArray, .int .i64 0]) ?_ rfl ?_
            · exact ret_blk3U rfl _ _ g3 96 (shp k) _ _ rfl rfl rfl L0.out d57 HU.out HD.out s57
            · exact .inl ⟨k, HF.out, rfl, LB.out⟩
        · have zn : decide (n = L) = false := by simp [hnL]
          have zn2 : ((n : Int) != (L : Int)) = true := by simp; omega
          have HNO : Hid (∀ k, ¬ Fits s k) := fun k' ⟨h1, h2, h3⟩ => by
            have e1 : typ k' = typ k := by rw [h2, HNN.out, HYE.out]
            have e2 : k' = k := by
              have hk := HK.out
              rcases h1 with rfl | rfl | rfl | rfl <;> rcases hk with rfl | rfl | rfl | rfl <;> first | rfl | (simp [typ] at e1)
            subst e2
            rw [HN.out, HLE.out] at h3
            exact hnL h3
          go_wp2
          refine wp_goto ?_
          refine ⟨rfl, ?_⟩
          go_wp2_with (refine wpList_store_blk rfl 96 _ _ rfl g3 shp0 shp0 96 rfl rfl V1.out s57 rfl shp0_one ?_)
          rw [Exit.noGoto_ret]
          refine bodyPost_ret (v := .tuple #[.int .i64 0, .agg shp0.toArray, .int .i64 3]) ?_ rfl ?_
          · exact ret_blk3U rfl _ _ g3 96 shp0 _ _ rfl rfl rfl V1.out.setRow d57 HU.out HD.out s57
          · exact .inr ⟨HNO.out, rfl, below_setRow' VB.out (by omega) _⟩
      · have zk : ((Y : Int) != (N : Int)) = true := by simp; omega
        have KN : Hid (ShAt w N B r g3 (fun z => left z && !z.sameKey (.int .i64 (k : Int))) cnt1 w5) :=
          ⟨YRG.out, Y1.out, YB.out, fun k' h1 h2 => HLEFT.out k' h1 h2 (fun e => by subst e; exact hkN (by rw [← HYE.out]; exact h2))⟩
        go_wp2
        go_roundw
        case rel => exact ⟨_, _, KN⟩
        case measure => exact YME.out
end Go.Proofs.YtnemkefmlffigaaGreat

/-
  Package ots: hashIn and number, for every slice that is long enough.
  Package ots: shapeIn, for every slice of bytes.
  Package ots: Candidate, for every signature of at most 1000000 bytes and every text of at most 100000.
-/
import Derived.Test.YtllncnnigjgadaaGreatOC
import Derived.BigQuiet
namespace Go.Proofs.YtllncnnigjgadaaGreat
open Go.RowKit

theorem Rd.take {B : Nat} {w : World} {a : Addr} {n c : Nat} {l : List UInt8} (h : Rd B w (.slice (some a) n c) l) (m : Nat) (hm : m ≤ n) : Rd B w (.slice (some a) m c) (l.take m) := by
  obtain ⟨A, c', hv, hc, hmx, hn, hcell⟩ := h
  injection hv with h1 h2 h3
  subst h1 h2 h3
  have hl : (l.take m).length = m := by rw [List.length_take]; omega
  refine ⟨some a, c, by rw [hl], by omega, hmx, fun h => (by cases h), fun x hx => ?_⟩
  cases hx
  refine ⟨fun h0 => (hcell a rfl).1 (by omega), fun j hj => ?_⟩
  rw [(hcell a rfl).2 j (by omega)]
  simp
theorem Rd.some_ {B : Nat} {w : World} {v : Value} {l : List UInt8} (h : Rd B w v l) (h0 : 0 < l.length) : ∃ a c, v = .slice (some a) l.length c ∧ l.length ≤ c ∧ c ≤ maxLen := by
  obtain ⟨A, c, rfl, hc, hm, hn, _⟩ := h
  cases A with
  | none => have := hn rfl; omega
  | some a => exact ⟨a, c, rfl, hc, hm⟩
/-- What is behind place m of a slice. -/
theorem run_sliceFromS (a : Addr) (n c m : Nat) (w : World) (h1 : m < n) (_ : n ≤ c) : (Instr.sliceAt 22 (.slice (some a) n c) (some (.int .i64 (m : Int))) none none).run Tryz.prog w = .ok (.slice (some (a.add m)) (n - m) (c - m)) w := by
  have e1 : m ≤ n := by omega

  have e3 : ¬ c = m := by omega
  simp [Instr.sliceAt, Instr.slice, run_underlying Tryz.underlying22, Instr.sliceBounds, Instr.sliceBound, asIntOf, e1, e3, Sem.run_bind, Result.andThen]

set_option maxRecDepth 100000 in
set_option maxHeartbeats 1000000 in
theorem hashIn_any (v : Value) (s : List UInt8) (i : Nat) (w : World) (hr : Rd w.heap.size w v s) (hi : 4 + i * 32 + 32 ≤ s.length) (hl : s.length ≤ 1000000) : Calls Tryz.prog 58 #[v, .int .i64 (i : Int)] w (Arr (bys (hAt s i)) w) := by
  have HR := Lib.hid hr
  obtain ⟨a, c, rfl, hc, hm⟩ := hr.some_ (by omega)
  unfold maxLen at hm
  have hal : (hAt s i).length = 32 := by unfold hAt; rw [List.length_take, List.length_drop]; omega
  have HAL := Lib.hid hal
  have H24 : Hid ((Tryz.prog.info? 30).map (·.size) = some (bys (hAt s i)).length) := by show _ = _; rw [bys_length, hal]; exact s24
  have HLZ : Hid (z32.length = (bys (hAt s i)).length) := by show _ = _; rw [bys_length, hal, z32_length]
  obtain ⟨n, hn⟩ : ∃ n, s.length = n := ⟨_, rfl⟩
  have HN := Lib.hid hn
  obtain ⟨m, hme⟩ : ∃ m, 4 + i * 32 = m := ⟨_, rfl⟩
  have HME := Lib.hid hme
  have hmn : m + 32 ≤ n := by omega
  have z1 : 4 + (i : Int) * 32 = (m : Int) := by omega
  have HM1 := Lib.hid z1
  have him : i ≤ 1000000 := by omega
  rw [hn] at hc hl ⊢
  clear hr hal hn hme hi z1
  go_enter Tryz.func58, Tryz.ntmps58
  go_wp2_with (refine wpList_alloc_blk rfl 30 rfl _ z24 ?_)
  intro w1 a1 a2 a3
  have A1 := Lib.hid a1
  have A2 := Lib.hid a2
  have A3 := Lib.hid a3
  clear a1 a2 a3
  go_wp2_with (refine wpList_alloc_blk rfl 30 rfl _ z24 ?_)
  intro w2 a1 a2 a3
  rw [A2.out] at a1 a2 a3 ⊢
  obtain ⟨g0, hg0⟩ : ∃ g, w.heap.size = g := ⟨_, rfl⟩
  obtain ⟨g1, hg1⟩ : ∃ g, g0 + 1 = g := ⟨_, rfl⟩
  have G0 : Hid (Blk w2 g0 z32 30) := by rw [← hg0]; exact A1.out.below a3 (by omega)
  have G1 : Hid (Blk w2 g1 z32 30) := by rw [← hg1, ← hg0]; exact a1
  have GB : Hid (Below w.heap.size w w2) := A3.out.trans (a3.mono (by omega))
  have hw0 : w.heap.size ≤ g0 := by omega
  have hg01 : g0 < g1 := by omega
  rw [hg0, hg1]
  clear a1 a2 a3 A1 A2 A3 hg0 hg1
  go_wp2
  refine wp_region_till 7 6 (fun _ => True) (by kernel_rfl) rfl ?_
  refine AnyTill.free (i := 0) (v := .slice (some ⟨g1, 0, none⟩) 32 32) rfl (by kernel_rfl) (by kernel_rfl) (by kernel_rfl) (by kernel_rfl) (fun _ _ _ h => h) (by rfl) (fun w' => ?_) trivial ?_
  · first | (go_simp; done) | (go_simp; rfl)
  simp only [Act.put, List.setIfInBounds_toArray, List.set_cons_zero, List.set_cons_succ]
  refine AnyTill.free (i := 1) (v := .slice (some a) n c) rfl (by kernel_rfl) (by kernel_rfl) (by kernel_rfl) (by kernel_rfl) (fun _ _ _ h => h) (by rfl) (fun w' => ?_) trivial ?_
  · first | (go_simp; done) | (go_simp; rfl)
  simp only [Act.put, List.setIfInBounds_toArray, List.set_cons_zero, List.set_cons_succ]
  refine AnyTill.free (i := 2) (v := .int .i64 (i : Int)) rfl (by kernel_rfl) (by kernel_rfl) (by kernel_rfl) (by kernel_rfl) (fun _ _ _ h => h) (by rfl) (fun w' => ?_) trivial ?_
  · first | (go_simp; done) | (go_simp; rfl)
  simp only [Act.put, List.setIfInBounds_toArray, List.set_cons_zero, List.set_cons_succ]
  refine AnyTill.free (i := 3) (v := .int .i64 ((i : Int) * 32)) rfl (by kernel_rfl) (by kernel_rfl) (by kernel_rfl) (by kernel_rfl) (fun _ _ _ h => h) (by rfl) (fun w' => ?_) trivial ?_
  · go_simp; first | done | exact wrap_i64 _ (by omega) (by omega)
  simp only [Act.put, List.setIfInBounds_toArray, List.set_cons_zero, List.set_cons_succ]
  refine AnyTill.free (i := 4) (v := .int .i64 (m : Int)) rfl (by kernel_rfl) (by kernel_rfl) (by kernel_rfl) (by kernel_rfl) (fun _ _ _ h => h) (by rfl) (fun w' => ?_) trivial ?_
  · have z1 := HM1.out; go_simp; first | done | exact wrap_i64 _ (by omega) (by omega)
  simp only [Act.put, List.setIfInBounds_toArray, List.set_cons_zero, List.set_cons_succ]
  refine AnyTill.free (i := 5) (v := .slice (some (a.add m)) (n - m) (c - m)) rfl (by kernel_rfl) (by kernel_rfl) (by kernel_rfl) (by kernel_rfl) (fun _ _ _ h => h) (by rfl) (fun w' => ?_) trivial ?_
  · have hs := run_sliceFromS a n c m w' (by omega) hc; first | (go_simp; done) | (go_simp; rfl)
  simp only [Act.put, List.setIfInBounds_toArray, List.set_cons_zero, List.set_cons_succ]
  refine AnyTill.one (i := 6) (by kernel_rfl) rfl (by rfl) (fun K hK => ?_)
  have hrd : Rd w.heap.size w (.slice (some (a.add m)) (n - m) (c - m)) (s.drop m) := by
    have h0 := HR.out
    rw [HN.out] at h0
    have h := h0.drop m (by omega)
    rwa [if_neg (by omega)] at h
  refine wp_of_list rfl (wpList_copy_to rfl _ _ 22 rfl 5 Tryz.underlying22 s5 g1 0 32 32 _ rfl rfl z32 30 G1.out.drew w.heap.size (s.drop m) (hrd.below (GB.out.drew)) (by rw [z32_length]; omega) 32 (by rw [List.length_take, List.length_drop, HN.out]; omega) (bys (hAt s i)) ?_ ?_)
  · have e1 : (s.drop m).take 32 = hAt s i := by unfold hAt; rw [HME.out]
    rw [e1, HAL.out]
    simp [z32, bys]
  intro w3 h3 hb3
  refine hK.out _ _ (.inl (by kernel_rfl)) ?_
  clear hK K
  refine AnyTill.done (by kernel_rfl) ?_
  refine NoPanic.normal ?_
  simp only [Act.put, List.setIfInBounds_toArray, List.set_cons_zero, List.set_cons_succ]
  have D0 : Hid (Blk w3 g0 z32 30) := hb3.blk G0.out.drew (by omega)
  have D1 := Lib.hid h3
  have DB : Hid (Below w.heap.size w w3) := GB.out.trans (((Below.refl _ _).drew).trans (hb3.below (by omega) (by simpa using GB.out.size)))
  clear h3 hb3 hrd G0 G1 GB
  go_wp2_with (first | (refine wpList_load_blk rfl 30 _ rfl g1 rfl (bys (hAt s i)) 30 D1.out 32 5 tu24 H24.out ?_) | (refine wpList_store_blk rfl 30 _ _ rfl g0 (bys (hAt s i)) z32 30 rfl rfl D0.out H24.out HLZ.out (bys_one' _) ?_))
  refine bodyPost_ret (v := .agg (bys (hAt s i)).toArray) ?_ rfl ?_
  · exact ret_blk rfl _ _ g0 30 _ rfl D0.out.setRow 32 5 tu24 H24.out
  · exact ⟨rfl, below_setRow' DB.out (by omega) _⟩

theorem wd_int2 (B0 B1 B2 B3 : Nat) (y0 : B0 < 256) (y1 : B1 < 256) (y2 : B2 < 256) (y3 : B3 < 256) :
    bits .or .u32 (bits .or .u32 (bits .or .u32 ((B0 : Int) * 16777216) ((B1 : Int) * 65536)) ((B2 : Int) * 256)) (B3 : Int) = ((B0 * 16777216 ||| B1 * 65536 ||| B2 * 256 ||| B3 : Nat) : Int) := by
  have r0 : (B0 : Int) * 16777216 = ((B0 * 16777216 : Nat) : Int) := by omega
  have r1 : (B1 : Int) * 65536 = ((B1 * 65536 : Nat) : Int) := by omega
  have r2 : (B2 : Int) * 256 = ((B2 * 256 : Nat) : Int) := by omega
  rw [r0, r1, r2, u32_or_nat _ _ (by omega) (by omega), u32_or_nat _ _ (or32 (by omega) (by omega)) (by omega), u32_or_nat _ _ (or32 (or32 (by omega) (by omega)) (by omega)) (by omega)]

set_option maxHeartbeats 1000000 in
theorem numberO_any (B : Nat) (v : Value) (l : List UInt8) (w : World) (hr : Rd B w v l) (hl : l.length = 4) : Calls Tryz.prog 92 #[v] w (Drew (.int .u32 (wd l 0 : Nat)) w) := by
  obtain ⟨a, c, hv, hc, hm⟩ := hr.some_ (by omega)
  subst hv
  obtain ⟨A, c', hv, _, _, _, hcell⟩ := hr
  injection hv with e1 e2 e3
  subst e1 e3
  have h0 := (hcell a rfl).2 0 (by omega)
  have h1 := (hcell a rfl).2 1 (by omega)
  have h2 := (hcell a rfl).2 2 (by omega)
  have h3 := (hcell a rfl).2 3 (by omega)
  rw [hl] at hc ⊢
  have hw : wd l 0 = (l[0].toNat * 16777216 ||| l[1].toNat * 65536 ||| l[2].toNat * 256 ||| l[3].toNat) := by
    unfold wd
    simp [hl]
  rw [hw]
  have y0 : l[0].toNat < 256 := l[0].toNat_lt
  have y1 : l[1].toNat < 256 := l[1].toNat_lt
  have y2 : l[2].toNat < 256 := l[2].toNat_lt
  have y3 : l[3].toNat < 256 := l[3].toNat_lt
  generalize l[0].toNat = B0 at h0 y0 hw ⊢
  generalize l[1].toNat = B1 at h1 y1 hw ⊢
  generalize l[2].toNat = B2 at h2 y2 hw ⊢
  generalize l[3].toNat = B3 at h3 y3 hw ⊢
  have HW := Lib.hid (wd_int2 B0 B1 B2 B3 y0 y1 y2 y3)
  unfold maxLen at hm
  clear hcell hw
  rw [show a.add 0 = a by simp [Addr.add]] at h0
  simp only [Addr.add] at h1 h2 h3
  rw [if_neg (by omega)] at h1 h2 h3
  go_enter Tryz.func92, Tryz.ntmps92
  go_wp2
  refine wp_region_quiet_lit (by kernel_rfl) (by kernel_rfl) ?_
  repeat (first | go_big_quiet_step (fail) | quiet_step (fail))
  refine wpQuiet_nil ?_
  intro _ hw'
  obtain ⟨nq, hw''⟩ := hw'
  subst hw''
  go_wp2
  go_ret
  exact ⟨ret_intD HW.out, nq, rfl⟩
end Go.Proofs.YtllncnnigjgadaaGreat

namespace Go.Proofs.YtllncnnigjgadaaGreat
open Go.RowKit

/-- The bytes have the type and the length of a signature of width k. -/
def Fits (s : List UInt8) (k : Nat) : Prop := Wd k ∧ typ k = wd (s.take 4) 0 ∧ s.length = lng k
/-- Three answers, and no old memory has changed. -/
def Three (x y z : Value) (w : World) (e : Ending) (w' : World) : Prop := e = .returned (.tuple #[x, y, z]) ∧ Below w.heap.size w w'

theorem Dt_inv (x c : Int) (h : ∀ zd, Dt.atKey (.int .i64 x) zd = .lit (.int .u32 c)) : ∃ k : Nat, Wd k ∧ x = (k : Int) ∧ c = ((typ k : Nat) : Int) := by
  have key : ∀ k : Nat, Wd k → x = (k : Int) → ∃ k : Nat, Wd k ∧ x = (k : Int) ∧ c = ((typ k : Nat) : Int) := fun k hk hx => by
    subst hx
    have h1 := h .nil
    rw [typ_at k hk] at h1
    injection h1 with h1
    injection h1 with _ h1
    exact ⟨k, hk, rfl, h1.symm⟩
  by_cases h1 : x = 1
  · exact key 1 (by simp [Wd]) h1
  by_cases h2 : x = 2
  · exact key 2 (by simp [Wd]) h2
  by_cases h4 : x = 4
  · exact key 4 (by simp [Wd]) h4
  by_cases h8 : x = 8
  · exact key 8 (by simp [Wd]) h8
  have e1 := h .nil
  have n1 : ¬ (1 : Int) = x := fun e => h1 e.symm
  have n2 : ¬ (2 : Int) = x := fun e => h2 e.symm
  have n4 : ¬ (4 : Int) = x := fun e => h4 e.symm
  have n8 : ¬ (8 : Int) = x := fun e => h8 e.symm
  simp [Dt, DataW.atKey, Lit.sameKey, List.find?, n1, n2, n4, n8] at e1
theorem Dt_has (k : Nat) (hk : Wd k) : Maps.has Dt (.int .i64 (k : Int)) = true := by
  rcases hk with rfl | rfl | rfl | rfl <;> rfl
theorem wd_wf (k : Nat) (hk : Wd k) : typ k ≤ 4 := by rcases hk with rfl | rfl | rfl | rfl <;> decide

/-- What the loop of shapeIn keeps. -/
def ShAt (w : World) (N : Nat) (B r g3 : Nat) (left : Lit → Bool) (cnt : Nat) (wr : World) : Prop :=
  wr.ranges Tryz.prog 3 (plainElem (H := Unit) Tryz.prog 60) B r 4 Dt left cnt ∧ Blk wr g3 shp0 105 ∧ Below w.heap.size w wr ∧ (∀ k, Wd k → typ k = N → left (.int .i64 (k : Int)) = true)

theorem ret_blk3U {P : Program} {fn : Func} {p u v : Tmp} {ty : TypeId} (h : fn.results = #[.tmp v, .cell p ty, .tmp u]) (tmps : Array Value) (w : World) (g : Nat) (t : TypeId) (cs : List Value) (x y : Value)
    (hp : tmps.getD p undef = .pointer (some ⟨g, 0, none⟩)) (hx : tmps.getD v undef = x) (hv : tmps.getD u undef = y) (hb : Blk w g cs t) (d : TypeDesc) (hu : P.underlying ty = some d) (hd : d.isRow = true) (hi : (P.info? ty).map (·.size) = some cs.length) :
    (results fn tmps).run P w = .ok (.tuple #[x, .agg cs.toArray, y]) w := by
  have hl := run_loadVar_row w g t ty cs.toArray (0, 0) d hb hu (by cases d <;> first | rfl | cases hd) (by simpa using hi)
  have hp' : tmps[p]?.getD undef = .pointer (some ⟨g, 0, none⟩) := by simpa using hp
  have hx' : tmps[v]?.getD undef = x := by simpa using hx
  have hv' : tmps[u]?.getD undef = y := by simpa using hv
  simp [results, h, Result.andThen, hp', hx', hv', asAddr, hl]

/-- What shapeIn answers of bytes that are not too short. -/
def ShapeIs (s : List UInt8) (w : World) (e : Ending) (w' : World) : Prop :=
  (∃ k, Fits s k ∧ Three (.int .i64 (k : Int)) (.agg (shp k).toArray) (.int .i64 0) w e w') ∨ ((∀ k, ¬ Fits s k) ∧ Three (.int .i64 0) (.agg shp0.toArray) (.int .i64 3) w e w')

theorem wpList_load_blkUG {P : Program} {w : World} {ops : Array Oper} {rest : List Oper} {o : Oper} {a : Act} {Q : Exit → Act → World → Prop} (t : TypeId) (x : Operand) (ho : o.op = .load t x) (g : Nat) (hx : a.eval x = .pointer (some ⟨g, 0, none⟩)) (cs : List Value) (u : TypeId) (hb : Blk w g cs u)
    (d : TypeDesc) (hu : P.underlying t = some d) (hd : d.isRow = true) (hi : (P.info? t).map (·.size) = some cs.length) (hw : Region.wanted o (yielded ops a.tmps) = true)
    (h : wpList P ops Q rest (a.put o.dst (.agg cs.toArray)) w) : wpList P ops Q (o :: rest) a w := by
  refine BigFrame.wpList_want hw (fun K hK => ?_)
  unfold Oper.wp
  rw [run_load_blkU t x ho g hx cs u hb d hu hd hi]
  exact hK _ _ h

set_option maxRecDepth 100000 in
set_option maxHeartbeats 2000000 in
theorem shapeIn_any (v : Value) (s : List UInt8) (w : World) (hr : Rd w.heap.size w v s) (hs : 4 ≤ s.length) (hl : s.length ≤ 1000000) : Calls Tryz.prog 55 #[v] w (ShapeIs s w) := by
  have HR := Lib.hid hr
  obtain ⟨a, c, rfl, hc, hm⟩ := hr.some_ (by omega)
  unfold maxLen at hm
  obtain ⟨n, hn⟩ : ∃ n, s.length = n := ⟨_, rfl⟩
  have HN := Lib.hid hn
  rw [hn] at hs hl hc HR ⊢
  obtain ⟨N, hNN⟩ : ∃ N, wd (s.take 4) 0 = N := ⟨_, rfl⟩
  have HNN := Lib.hid hNN
  obtain ⟨d57, hu57, hd57⟩ := row57
  have HU := Lib.hid hu57
  have HD := Lib.hid hd57
  have zs : decide ((n : Int) < 4) = false := by simp; omega
  clear hu57 hd57 hr hn hNN
  go_enter Tryz.func55, Tryz.ntmps55
  go_wp2_with (refine wpList_alloc_blk rfl 105 rfl _ zi57 ?_)
  intro w1 a1 a2 a3
  obtain ⟨g3, hg3⟩ : ∃ g, w.heap.size = g := ⟨_, rfl⟩
  rw [hg3] at a1 a2 a3 ⊢
  have A1 := Lib.hid a1
  have hs1 : g3 < w1.heap.size := by omega
  have A3 : Hid (Below w.heap.size w w1) := by rw [hg3]; exact a3
  have hw3 : w.heap.size ≤ g3 := by omega
  clear a1 a2 a3 hg3
  go_wp2
  refine wp_scope_goto 0 rfl ?_
  go_wp2_with fail
  refine (types_any _).mono ?_
  rintro e w2 ⟨B, rfl, hown, hb2, hB⟩
  have O2 := Lib.hid hown
  have E1 : Hid (Blk w2 g3 shp0 105) := A1.out.below hb2 hs1
  have EB : Hid (Below w.heap.size w w2) := A3.out.trans (hb2.mono (by omega))
  have hBg : w.heap.size ≤ B := by omega
  clear hown hb2 A1 A3 hs1 hB
  go_wp2_with (first | (at_range; refine wpList_range_own _ rfl _ 135 rfl 3 60 law3 Tryz.underlying135 _ B 4 Dt rfl O2.out ?_))
  intro w0 hrg0 hg0 hsz0
  obtain ⟨r, hr0⟩ : ∃ r, w2.heap.size = r := ⟨_, rfl⟩
  rw [hr0] at hrg0 hsz0 ⊢
  have hrw : w.heap.size ≤ r := by rw [← hr0]; exact EB.out.size
  have hb0 : Below w2.heap.size w2 w0 := ⟨hg0.os, hg0.tape, hg0.output, hg0.size, fun k hk => hg0.block k hk (by simp)⟩
  have hr3 : g3 < r := by rw [← hr0]; exact E1.out.lt
  have K0 : Hid (ShAt w N B r g3 (Maps.has Dt) (Maps.size Dt) w0) := ⟨hrg0, E1.out.below hb0 E1.out.lt, EB.out.trans (hb0.mono EB.out.size), fun k hk _ => Dt_has k hk⟩
  clear hrg0 hg0 hsz0 hr0 hb0 E1 EB O2
  go_wp2
  go_loopw [6] (fun _ wr => ∃ left cnt, Hid (ShAt w N B r g3 left cnt wr)) (fun _ wr => wr.rangeLeft B r)
  case atStart => exact ⟨_, _, K0⟩
  case round =>
    clear K0
    obtain ⟨left, cnt, K⟩ := hrel
    go_wp2_with (at_next; refine wpList_next_ranges_ii _ rfl _ rfl 3 60 .i64 .u32 law3 Tryz.underlying3 Tryz.underlying60 B r 4 _ _ _ rfl K.out.1 ?_ ?_)
    · intro _ hl0
      have hno : ∀ k, ¬ Fits s k := fun k ⟨h1, h2, _⟩ => by
        have := K.out.2.2.2 k h1 (by rw [h2]; exact HNN.out)
        rw [hl0] at this
        cases this
      have HNO := Lib.hid hno
      have X1 : Hid (Blk wr g3 shp0 105) := K.out.2.1
      have XB : Hid (Below w.heap.size w wr) := K.out.2.2.1
      clear hl0 hno K
      go_wp2
      go_step3
      go_wp2_with (refine wpList_store_blk rfl 105 _ _ rfl g3 shp0 shp0 105 rfl rfl X1.out s57 rfl shp0_one ?_)
      rw [jump_ret]
      refine bodyPost_ret (v := .tuple #[.int .i64 0, .agg shp0.toArray, .int .i64 3]) ?_ rfl ?_
      · exact ret_blk3U rfl _ _ g3 105 shp0 _ _ rfl rfl rfl X1.out.setRow d57 HU.out HD.out s57
      · exact .inr ⟨HNO.out, rfl, below_setRow' XB.out (by omega) _⟩
    · intro x cc w4 cnt1 hwx hwc hlx hat hrg1 hlt hg1 hs1 hen
      obtain ⟨k, hk, rfl, rfl⟩ := Dt_inv x cc hat
      have HK := Lib.hid hk
      have hY := wd_wf k hk
      obtain ⟨Y, hYe⟩ : ∃ Y, typ k = Y := ⟨_, rfl⟩
      have HYE := Lib.hid hYe
      have X1 : Hid (Blk w4 g3 shp0 105) := by
        have h := K.out.2.1
        unfold Hid Blk
        rw [hg1.block g3 h.lt (by simp; omega)]
        exact h
      have XB : Hid (Below w.heap.size w w4) := K.out.2.2.1.grown hg1 K.out.2.2.1.size (fun j hj => by cases hj; exact hrw)
      have HRG := Lib.hid hrg1
      have HLEFT : Hid (∀ k', Wd k' → typ k' = N → k' ≠ k → (left (.int .i64 (k' : Int)) && !(Lit.int .i64 (k' : Int)).sameKey (.int .i64 (k : Int))) = true) := fun k' h1 h2 h3 => by
        rw [K.out.2.2.2 k' h1 h2]
        have : ¬ (k' : Int) = (k : Int) := by omega
        simp [Lit.sameKey, this]
      have HMEAS : Hid (w4.rangeLeft B r < wr.rangeLeft B r) := by
        show _ < _
        rw [hrg1.left_eq, K.out.1.left_eq]; exact hlt
      rw [hYe] at hY ⊢
      rw [hYe] at hen
      clear hk hwx hwc hlx hat hrg1 hlt hg1 hs1 hYe K
      go_wp2_with fail
      clear hen
      refine (numberO_any w.heap.size _ (s.take 4) _ ((HR.out.below XB.out).take 4 hs) (by rw [List.length_take, HN.out]; omega)).mono ?_
      rintro e w5 ⟨rfl, nd, rfl⟩
      rw [HNN.out]
      have Y1 : Hid (Blk (w4.drewN nd) g3 shp0 105) := X1.out
      have YB : Hid (Below w.heap.size w (w4.drewN nd)) := Below.drewN' XB.out
      have YRG : Hid ((w4.drewN nd).ranges Tryz.prog 3 (plainElem (H := Unit) Tryz.prog 60) B r 4 Dt (fun z => left z && !z.sameKey (.int .i64 (k : Int))) cnt1) := HRG.out
      have YME : Hid ((w4.drewN nd).rangeLeft B r < wr.rangeLeft B r) := HMEAS.out
      generalize w4.drewN nd = w5 at Y1 YB YRG YME ⊢
      clear X1 XB HRG HMEAS
      by_cases hkN : Y = N
      · subst hkN
        go_wp2_with fail
        refine (shapeOf_yes k _ HK.out).mono ?_
        rintro e w6 ⟨rfl, hb⟩
        have Z1 : Hid (Blk w6 g3 shp0 105) := Y1.out.below hb Y1.out.lt
        have ZB : Hid (Below w.heap.size w w6) := YB.out.trans (hb.mono YB.out.size)
        clear hb Y1 YB YRG YME
        go_wp2_with (refine wpList_alloc_blk rfl 105 rfl _ zi57 ?_)
        intro w7 a1 a2 a3
        obtain ⟨gS, hgS⟩ : ∃ g, w6.heap.size = g := ⟨_, rfl⟩
        rw [hgS] at a1 a2 a3 ⊢
        have hg3S : g3 < gS := by rw [← hgS]; exact Z1.out.lt
        have A1 := Lib.hid a1
        obtain ⟨t7, ht7⟩ : ∃ t, w7.setRow gS (shp k).toArray = t := ⟨_, rfl⟩
        have T1 : Hid (Blk t7 g3 shp0 105) := by rw [← ht7]; exact (Z1.out.below a3 (by omega)).setRowOther (by omega)
        have T2 : Hid (Blk t7 gS (shp k) 105) := by rw [← ht7]; exact a1.setRow
        have TB : Hid (Below w.heap.size w t7) := by have := ZB.out.size; rw [← ht7]; exact below_setRow' (ZB.out.trans (a3.mono (by omega))) (by omega) _
        clear a1 a2 a3 hgS Z1 ZB
        go_wp2_with (first | (refine wpList_store_blk rfl 105 _ _ rfl gS (shp k) shp0 105 rfl rfl A1.out s57 rfl (shp_one k) ?_; rw [ht7]) | (refine wpList_load_blkUG 105 _ rfl gS rfl (shp k) 105 T2.out d57 HU.out HD.out s57 (by rfl) ?_))
        clear A1 ht7
        refine (long_any k _ HK.out).mono ?_
        rintro e w8 ⟨rfl, hb⟩
        obtain ⟨L, hL⟩ : ∃ L, lng k = L := ⟨_, rfl⟩
        rw [hL]
        have HLE := Lib.hid hL
        have V1 : Hid (Blk w8 g3 shp0 105) := T1.out.below hb T1.out.lt
        have V2 : Hid (Blk w8 gS (shp k) 105) := T2.out.below hb T2.out.lt
        have VB : Hid (Below w.heap.size w w8) := TB.out.trans (hb.mono TB.out.size)
        clear hb T1 T2 TB hL
        by_cases hnL : n = L
        · subst hnL
          have HF : Hid (Fits s k) := ⟨HK.out, by rw [HYE.out, HNN.out], by rw [HN.out, HLE.out]⟩
          go_wp2
          refine wp_region_rely3 3 2 (fun x => ⟨#[Value.slice (some a) n c, undef, x 2, Value.pointer (some { block := g3, off := 0 }), u4, Value.int IntKind.i64 3, Value.int IntKind.i64 ↑k, Value.int IntKind.u32 ↑Y, Value.pointer (some { block := gS, off := 0 }), Value.int IntKind.i64 0, Value.slice (some a) n c, Value.int IntKind.i64 ↑n, Value.bool false, Value.map (some B), Value.pointer (some { block := r, off := 0 }), Value.tuple #[Value.bool true, Value.int IntKind.i64 ↑k, Value.int IntKind.u32 ↑Y], Value.bool true, Value.tuple #[Value.int IntKind.i64 ↑k, Value.int IntKind.u32 ↑Y], Value.int IntKind.i64 ↑k, Value.int IntKind.u32 ↑Y, Value.int IntKind.u32 ↑Y, Value.slice (some a) n c, Value.slice (some a) 4 c, Value.int IntKind.u32 ↑Y, Value.bool false, Value.tuple #[Value.agg (shp k).toArray, Value.int IntKind.i64 0], Value.int IntKind.i64 ↑k, Value.tuple #[Value.agg (shp k).toArray, Value.int IntKind.i64 0], Value.agg (shp k).toArray, Value.int IntKind.i64 0, Value.int IntKind.i64 0, Value.bool false, Value.bool false, Value.slice (some a) n c, Value.int IntKind.i64 ↑n, Value.agg (shp k).toArray, Value.int IntKind.i64 ↑n, Value.bool false, Value.bool false, x 0, x 1, undef, undef], []⟩) (fun jj => ([eqV (.int .i64 (k : Int)), eqV (.agg (shp k).toArray), eqV (.int .i64 (k : Int))] : List (Value → World → Prop)).getD jj (fun _ _ => True)) rfl ⟨fun kk => [_, _, _].getD kk undef, rfl⟩ (by kernel_rfl) (by kernel_rfl) ?steps ?fin
          case steps =>
            refine StepsAt.val 0 (.int .i64 (k : Int)) rfl (fun _ _ => rfl) rfl rfl (fun x w1 hb hd => ?_) ?_
            · first | (go_simp; done) | (go_simp; rfl)
            refine StepsAt.val 1 (.agg (shp k).toArray) rfl (fun _ _ => rfl) rfl rfl (fun x w1 hb hd => ?_) ?_
            · exact run_load_blkU 105 (.tmp 8) rfl gS rfl (shp k) 105 (V2.out.below hb V2.out.lt) d57 HU.out HD.out s57
            refine StepsAt.val 2 (.int .i64 (k : Int)) rfl (fun _ _ => rfl) rfl rfl (fun x w1 hb hd => ?_) ?_
            · have h0 : x 0 = .int .i64 (k : Int) := hd 0 (by kernel_rfl)
              rw [h0]
              first | (go_simp; done) | (go_simp; rfl)
            exact StepsAt.done
          case fin =>
            intro x w1 hb hd
            have h1 : x 1 = .agg (shp k).toArray := hd 1 (by omega)
            have h2 : x 2 = .int .i64 (k : Int) := hd 2 (by omega)
            refine AnyTill.any (S := fun _ => True) (m := 5) _ _ _ _ ?_
            refine AnyTill.one (i := 3) (by kernel_rfl) rfl (by rfl) (fun K hK => ?_)
            refine wp_store_blk 105 (.tmp 3) (.tmp 40) rfl g3 (shp k) shp0 105 rfl h1 (V1.out.below hb V1.out.lt) s57 rfl (shp_one k) ?_
            refine hK.out _ _ (.inr trivial) ?_
            clear hK K
            refine AnyTill.one (i := 4) (by kernel_rfl) rfl (by rfl) (fun K hK => ?_)
            refine hK.out _ _ (.inr trivial) ?_
            clear hK K
            refine AnyTill.done (by kernel_rfl) ?_
            refine NoPanic.normal ?_
            simp only [Act.put, Act.eval, List.setIfInBounds_toArray, List.set_cons_zero, List.set_cons_succ]
            rw [h2]
            have L0 : Hid (Blk (w1.setRow g3 (shp k).toArray) g3 (shp k) 105) := (V1.out.below hb V1.out.lt).setRow
            have LB : Hid (Below w.heap.size w (w1.setRow g3 (shp k).toArray)) := below_setRow' (VB.out.trans (hb.mono VB.out.size)) (by omega) _
            clear hd h1 h2
            go_wp2
            rw [jump_ret]
            refine bodyPost_ret (v := .tuple #[.int .i64 (k : Int), .agg (shp k).toArray, .int .i64 0]) ?_ rfl ?_
            · exact ret_blk3U rfl _ _ g3 105 (shp k) _ _ rfl rfl rfl L0.out d57 HU.out HD.out s57
            · exact .inl ⟨k, HF.out, rfl, LB.out⟩
        · have zn : decide (n = L) = false := by simp [hnL]
          have zn2 : ((n : Int) != (L : Int)) = true := by simp; omega
          have HNO : Hid (∀ k, ¬ Fits s k) := fun k' ⟨h1, h2, h3⟩ => by
            have e1 : typ k' = typ k := by rw [h2, HNN.out, HYE.out]
            have e2 : k' = k := by
              have hk := HK.out
              rcases h1 with rfl | rfl | rfl | rfl <;> rcases hk with rfl | rfl | rfl | rfl <;> first | rfl | (simp [typ] at e1)
            subst e2
            rw [HN.out, HLE.out] at h3
            exact hnL h3
          go_wp2
          refine wp_goto ?_
          refine ⟨rfl, ?_⟩
          go_wp2_with (refine wpList_store_blk rfl 105 _ _ rfl g3 shp0 shp0 105 rfl rfl V1.out s57 rfl shp0_one ?_)
          rw [Exit.noGoto_ret]
          refine bodyPost_ret (v := .tuple #[.int .i64 0, .agg shp0.toArray, .int .i64 3]) ?_ rfl ?_
          · exact ret_blk3U rfl _ _ g3 105 shp0 _ _ rfl rfl rfl V1.out.setRow d57 HU.out HD.out s57
          · exact .inr ⟨HNO.out, rfl, below_setRow' VB.out (by omega) _⟩
      · have zk : ((Y : Int) != (N : Int)) = true := by simp; omega
        have KN : Hid (ShAt w N B r g3 (fun z => left z && !z.sameKey (.int .i64 (k : Int))) cnt1 w5) :=
          ⟨YRG.out, Y1.out, YB.out, fun k' h1 h2 => HLEFT.out k' h1 h2 (fun e => by subst e; exact hkN (by rw [← HYE.out]; exact h2))⟩
        go_wp2
        go_roundw
        case rel => exact ⟨_, _, KN⟩
        case measure => exact YME.out
end Go.Proofs.YtllncnnigjgadaaGreat

namespace Go.Proofs.YtllncnnigjgadaaGreat
open Go.RowKit

theorem rowsTo_len2 (f : Nat → List UInt8) (n : Nat) (hf : ∀ i, i < n → (f i).length = 32) : (rowsTo f n).length = 32 * n := by
  induction n with
  | zero => rfl
  | succ n ih => rw [rowsTo_succ, List.length_append, ih (fun i hi => hf i (by omega)), hf n (by omega)]; omega
theorem hAt_length (s : List UInt8) (i : Nat) (h : 4 + i * 32 + 32 ≤ s.length) : (hAt s i).length = 32 := by unfold hAt; rw [List.length_take, List.length_drop]; omega
theorem cndF_length (p s : List UInt8) (D : List Nat) (k i : Nat) (h : s.length = lng k) (hi : i < mny k) : (cndF p s D k i).length = 32 := chn_length _ _ _ _ _ (hAt_length _ _ (by rw [h]; unfold lng; omega))

/-- What the loop of Candidate keeps. -/
def CndAt (w : World) (I : List UInt8) (q k g1 gp gs b : Nat) (D : List Nat) (dv v : Value) (l : List UInt8) (wr : World) : Prop :=
  Blk wr g1 z32 30 ∧ Blk wr gp (bys (pre20 I q)) 102 ∧ Blk wr gs (shp k) 105 ∧ RdI b wr dv D ∧ Own 5 wr b v l ∧ b ≤ wr.heap.size ∧ Below w.heap.size w wr
theorem CndAt.below {w : World} {I : List UInt8} {q k g1 gp gs b : Nat} {D : List Nat} {dv v : Value} {l : List UInt8} {wr w' : World} (h : CndAt w I q k g1 gp gs b D dv v l wr) (hb : Below wr.heap.size wr w') : CndAt w I q k g1 gp gs b D dv v l w' := by
  obtain ⟨h1, h2, h3, h4, h5, h6, h7⟩ := h
  exact ⟨h1.below hb h1.lt, h2.below hb h2.lt, h3.below hb h3.lt, h4.below (hb.mono h6), h5.below hb (Nat.le_refl _), Nat.le_trans h6 hb.size, h7.trans (hb.mono h7.size)⟩

set_option maxRecDepth 100000 in
set_option maxHeartbeats 2000000 in
theorem candX_yes (I text s : List UInt8) (q k : Nat) (tv sv : Value) (w : World) (hI : I.length = 16) (hq : q < 4294967296) (ht : Rd w.heap.size w tv text) (hsv : Rd w.heap.size w sv s) (hl : text.length ≤ 100000) (hf : Fits s k) : Calls Tryz.prog 31 #[.agg (bys I).toArray, .int .u32 (q : Int), tv, sv] w (TwoD (.agg (bys (cndL (pre20 I q) s text k)).toArray) (.int .i64 0) w) := by
  obtain ⟨i0, hi, hz0, hz1, hz2⟩ := info_parts info5
  have HIN := Lib.hid hi
  have H0 := Lib.hid hz0
  have H1 := Lib.hid hz1
  have H2 := Lib.hid hz2
  have HI := Lib.hid hI
  have HT := Lib.hid ht
  have HSV := Lib.hid hsv
  have HP := Lib.hid (pre20_length I q hI)
  obtain ⟨hk, hty, hsl⟩ := hf
  have HK := Lib.hid hk
  have HF : Hid (Fits s k) := ⟨hk, hty, hsl⟩
  have hm := mny_le k hk
  obtain ⟨_, _, _, hG5⟩ := hk.le
  have hu : ∀ k', Fits s k' → k' = k := fun k' ⟨h1, h2, _⟩ => by
    have e1 : typ k' = typ k := by rw [h2, hty]
    rcases h1 with rfl | rfl | rfl | rfl <;> rcases hk with rfl | rfl | rfl | rfl <;> first | rfl | (simp [typ] at e1)
  have HUQ := Lib.hid hu
  obtain ⟨D, hD⟩ : ∃ D, cdig (pre20 I q) s text k = D := ⟨_, rfl⟩
  obtain ⟨M, hM⟩ : ∃ M, mny k = M := ⟨_, rfl⟩
  obtain ⟨G, hG⟩ : ∃ G, gr k = G := ⟨_, rfl⟩
  have hM0 : 0 < M := by rw [← hM]; rcases hk with rfl | rfl | rfl | rfl <;> decide
  have hDl : D.length = M := by rw [← hD, ← hM]; unfold cdig; rw [allD_length]; rfl
  have hDg : ∀ i, D.getD i 0 ≤ G := fun i => by rw [← hD, ← hG]; exact digit_le _ k i
  have hsn : s.length = 4 + (1 + M) * 32 := by rw [hsl, ← hM]; rfl
  have hcl : ∀ i, i < M → (cndF (pre20 I q) s D k i).length = 32 := fun i hi => cndF_length _ _ _ _ _ hsl (by rw [hM]; exact hi)
  have HCL := Lib.hid hcl
  have HSN := Lib.hid hsn
  have HDE := Lib.hid hD
  have HME := Lib.hid hM
  have HGE := Lib.hid hG
  have HDL := Lib.hid hDl
  have HDG := Lib.hid hDg
  have HC2 : Hid ((shp k)[2]? = some (.int .i64 (G : Int))) := by show _ = _; rw [← hG]; rfl
  have hs4 : 4 ≤ s.length := by omega
  have hsm : s.length ≤ 1000000 := by rw [hsn]; rw [hM] at hm; omega
  rw [hM] at hm
  rw [hG] at hG5
  have H24 : Hid ((Tryz.prog.info? 30).map (·.size) = some (bys (cndL (pre20 I q) s text k)).length) := by show _ = _; rw [bys_length]; unfold cndL; rw [hpub_length]; exact s24
  have HLZ : Hid (z32.length = (bys (cndL (pre20 I q) s text k)).length) := by show _ = _; rw [bys_length, z32_length]; unfold cndL; rw [hpub_length]
  clear hk hty hsl hu hD hM hG hDl hDg hsn hcl
  have H22 : Hid ((Tryz.prog.info? 29).map (·.size) = some (bys I).length) := by show _ = _; rw [bys_length, hI]; exact s22
  have H67 : Hid ((Tryz.prog.info? 102).map (·.size) = some (bys (pre20 I q)).length) := by show _ = _; rw [bys_length, pre20_length I q hI]; exact s67
  have HL67 : Hid (z20.length = (bys (pre20 I q)).length) := by show _ = _; rw [bys_length, pre20_length I q hI, z20_length]
  obtain ⟨d57, hu57, hd57⟩ := row57
  have HU := Lib.hid hu57
  have HD := Lib.hid hd57
  obtain ⟨At, ct, rfl, hct, hmt⟩ := ht.shape
  unfold maxLen at hmt
  obtain ⟨As, cs, rfl, hcs, hms⟩ := hsv.shape
  unfold maxLen at hms
  clear hI hi hz0 hz1 hz2 hu57 hd57 ht hsv
  go_enter Tryz.func31, Tryz.ntmps31
  go_wp2_with (refine wpList_box_blk rfl 29 _ rfl (bys I) rfl ?_)
  intro v1 a1 a2 a3
  have A1 := Lib.hid a1
  have A2 := Lib.hid a2
  have A3 := Lib.hid a3
  clear a1 a2 a3
  go_wp2_with (refine wpList_alloc_blk rfl 30 rfl _ z24 ?_)
  intro v2 a1 a2 a3
  rw [A2.out] at a1 a2 a3 ⊢
  obtain ⟨g0, hg0⟩ : ∃ g, w.heap.size = g := ⟨_, rfl⟩
  obtain ⟨g1, hg1⟩ : ∃ g, g0 + 1 = g := ⟨_, rfl⟩
  have G1 : Hid (Blk v2 g0 (bys I) 29) := by rw [← hg0]; exact A1.out.below a3 (by omega)
  have G2 : Hid (Blk v2 g1 z32 30) := by rw [← hg1, ← hg0]; exact a1
  have GB : Hid (Below w.heap.size w v2) := A3.out.trans (a3.mono (by omega))
  have hs2 : g1 < v2.heap.size := by omega
  have hw0 : w.heap.size ≤ g0 := by omega
  have hg01 : g0 < g1 := by omega
  rw [hg0, hg1]
  clear a1 a2 a3 A1 A2 A3 hg0 hg1
  go_wp2
  refine wp_scope_goto 0 rfl ?_
  go_wp2_with (refine wpList_load_blk rfl 29 _ rfl g0 rfl (bys I) 29 G1.out 16 5 tu22 H22.out ?_)
  refine (prefixOf_any I q _ HI.out hq).mono ?_
  rintro e w1 ⟨rfl, hb⟩
  have E2 : Hid (Blk w1 g1 z32 30) := G2.out.below hb (by omega)
  have EB : Hid (Below w.heap.size w w1) := GB.out.trans (hb.mono (by omega))
  have hs1 : g1 < w1.heap.size := Nat.lt_of_lt_of_le hs2 hb.size
  clear hb G1 G2 GB hs2
  go_wp2_with (refine wpList_alloc_blk rfl 102 rfl _ zi67 ?_)
  intro w2 a1 a2 a3
  obtain ⟨gp, hgp⟩ : ∃ g, w1.heap.size = g := ⟨_, rfl⟩
  rw [hgp] at a1 a2 a3 hs1 ⊢
  have A1 := Lib.hid a1
  obtain ⟨t2, ht2⟩ : ∃ t, w2.setRow gp (bys (pre20 I q)).toArray = t := ⟨_, rfl⟩
  have L2 : Hid (Blk t2 g1 z32 30) := by rw [← ht2]; exact (E2.out.below a3 (by omega)).setRowOther (by omega)
  have L3 : Hid (Blk t2 gp (bys (pre20 I q)) 102) := by rw [← ht2]; exact a1.setRow
  have LB : Hid (Below w.heap.size w t2) := by rw [← ht2]; exact below_setRow' (EB.out.trans (a3.mono (by omega))) (by omega) _
  clear a1 a2 a3 E2 EB hgp
  go_wp2_with (first | (refine wpList_store_blk rfl 102 _ _ rfl gp (bys (pre20 I q)) z20 102 rfl rfl A1.out H67.out HL67.out (bys_one' _) ?_; rw [ht2]))
  clear ht2 A1
  refine (shapeIn_any _ s _ (((HSV.out.below LB.out)).more LB.out.size) hs4 hsm).mono ?_
  rintro e w3 (⟨k', hk', rfl, hb⟩ | ⟨hno, _⟩)
  case inr => exact absurd HF.out (hno k)
  have hkk := (HUQ.out k' hk').symm
  clear hk'
  subst hkk
  have M2 : Hid (Blk w3 g1 z32 30) := L2.out.below hb L2.out.lt
  have M3 : Hid (Blk w3 gp (bys (pre20 I q)) 102) := L3.out.below hb L3.out.lt
  have MB : Hid (Below w.heap.size w w3) := LB.out.trans (hb.mono LB.out.size)
  have hs3 : gp < w3.heap.size := M3.out.lt
  clear hb L2 L3 LB
  go_wp2_with (refine wpList_alloc_blk rfl 105 rfl _ zi57 ?_)
  intro w4 a1 a2 a3
  obtain ⟨gs, hgs⟩ : ∃ g, w3.heap.size = g := ⟨_, rfl⟩
  rw [hgs] at a1 a2 a3 hs3 ⊢
  have A1 := Lib.hid a1
  obtain ⟨t6, ht6⟩ : ∃ t, w4.setRow gs (shp k).toArray = t := ⟨_, rfl⟩
  have R2 : Hid (Blk t6 g1 z32 30) := by rw [← ht6]; exact (M2.out.below a3 (by omega)).setRowOther (by omega)
  have R3 : Hid (Blk t6 gp (bys (pre20 I q)) 102) := by rw [← ht6]; exact (M3.out.below a3 (by omega)).setRowOther (by omega)
  have R5 : Hid (Blk t6 gs (shp k) 105) := by rw [← ht6]; exact a1.setRow
  have RB : Hid (Below w.heap.size w t6) := by rw [← ht6]; exact below_setRow' (MB.out.trans (a3.mono (by omega))) (by omega) _
  clear a1 a2 a3 M2 M3 MB hgs
  go_wp2_with (first | (refine wpList_store_blk rfl 105 _ _ rfl gs (shp k) shp0 105 rfl rfl A1.out s57 rfl (shp_one k) ?_; rw [ht6]))
  clear ht6 A1
  refine wp_region_rely2 12 0 (fun x => ⟨#[Value.agg (bys I).toArray, Value.int IntKind.u32 ↑q, Value.slice At text.length ct, Value.slice As s.length cs, Value.pointer (some { block := g0, off := 0 }), undef, undef, undef, Value.pointer (some { block := g1, off := 0 }), Value.int IntKind.i64 0, x 10, Value.slice none 0 0, Value.pointer (some { block := gp, off := 0 }), Value.int IntKind.i64 ↑k, Value.pointer (some { block := gs, off := 0 }), x 11, undef, undef, undef, Value.agg (bys I).toArray, Value.int IntKind.u32 ↑q, Value.agg (bys (pre20 I q)).toArray, Value.tuple #[Value.int IntKind.i64 ↑k, Value.agg (shp k).toArray, Value.int IntKind.i64 0], Value.slice As s.length cs, Value.tuple #[Value.int IntKind.i64 ↑k, Value.agg (shp k).toArray, Value.int IntKind.i64 0], Value.int IntKind.i64 ↑k, Value.agg (shp k).toArray, Value.int IntKind.i64 0, Value.int IntKind.i64 0, Value.bool false, x 7, x 0, x 1, x 2, x 3, x 4, x 5, x 6, x 8, x 9, undef, undef, undef, undef, undef, undef, undef, undef, undef, undef, undef, undef, undef, undef, undef, undef, undef, undef, undef, undef, undef, undef, undef, undef, undef, undef, undef, undef], []⟩) (fun jj => ([eqV (.agg (bys (pre20 I q)).toArray), eqV (.slice As s.length cs), (eqV (.agg (bys (hAt s 0)).toArray)), eqV (.slice At text.length ct), (eqV (.agg (bys (hmsg (pre20 I q) (hAt s 0) text)).toArray)), eqV (.int .i64 (k : Int)), (AllN D), (AllN D), (RdIN D), eqV (.int .i64 0), (RdIN D), eqV (.int .i64 0)] : List (Value → World → Prop)).getD jj (fun _ _ => True)) rfl ⟨fun kk => [_, _, _, _, _, _, _, _, _, _, _, _].getD kk undef, rfl⟩ (by kernel_rfl) (by kernel_rfl) ?steps ?fin
  case steps =>
    refine StepsAt.val 0 (.agg (bys (pre20 I q)).toArray) rfl (fun _ _ => rfl) rfl rfl (fun x w1 hb hd => ?_) ?_
    · exact run_load_blk 102 (.tmp 12) rfl gp rfl (bys (pre20 I q)) 102 (R3.out.below hb R3.out.lt) 20 5 tu67 H67.out
    refine StepsAt.val 1 (.slice As s.length cs) rfl (fun _ _ => rfl) rfl rfl (fun x w1 hb hd => ?_) ?_
    · first | (go_simp; done) | (go_simp; rfl)
    refine StepsAt.cons 2 (fun _ _ _ h hb => h) (fun _ _ => rfl) rfl rfl (fun x w1 hb hd K hK => ?_) ?_
    · have h1 : Hid (x 1 = .slice As s.length cs) := hd 1 (by kernel_rfl)
      go_simp
      refine calls_args (args2 := #[.slice As s.length cs, .int .i64 ((0 : Nat) : Int)]) (by rw [h1.out]; rfl) ?_
      refine (hashIn_any _ s 0 _ (((HSV.out.below RB.out).below (hb.mono RB.out.size)).more (Nat.le_trans RB.out.size hb.size)) (by rw [HSN.out]; omega) hsm).mono ?_
      rintro e w2 ⟨rfl, hb2⟩
      exact hK.out _ _ hb2 rfl
    refine StepsAt.val 3 (.slice At text.length ct) rfl (fun _ _ => rfl) rfl rfl (fun x w1 hb hd => ?_) ?_
    · first | (go_simp; done) | (go_simp; rfl)
    refine StepsAt.cons 4 (fun _ _ _ h hb => h) (fun _ _ => rfl) rfl rfl (fun x w1 hb hd K hK => ?_) ?_
    · have h0 : Hid (x 0 = .agg (bys (pre20 I q)).toArray) := hd 0 (by kernel_rfl)
      have h2 : Hid (x 2 = .agg (bys (hAt s 0)).toArray) := hd 2 (by kernel_rfl)
      have h3 : Hid (x 3 = .slice At text.length ct) := hd 3 (by kernel_rfl)
      go_simp
      refine calls_args (args2 := #[.agg (bys (pre20 I q)).toArray, .agg (bys (hAt s 0)).toArray, .slice At text.length ct]) (by rw [h0.out, h2.out, h3.out]) ?_
      refine (messageHash_any (pre20 I q) (hAt s 0) text _ _ HP.out (hAt_length _ _ (by rw [HSN.out]; omega)) (((HT.out.below RB.out).below (hb.mono RB.out.size)).more (Nat.le_trans RB.out.size hb.size)) hl).mono ?_
      rintro e w2 ⟨rfl, hb2⟩
      exact hK.out _ _ hb2 rfl
    refine StepsAt.val 5 (.int .i64 (k : Int)) rfl (fun _ _ => rfl) rfl rfl (fun x w1 hb hd => ?_) ?_
    · first | (go_simp; done) | (go_simp; rfl)
    refine StepsAt.cons 6 (fun _ _ _ h hb => AllN.keep h hb) (fun _ _ => rfl) rfl rfl (fun x w1 hb hd K hK => ?_) ?_
    · have h4 : Hid (x 4 = .agg (bys (hmsg (pre20 I q) (hAt s 0) text)).toArray) := hd 4 (by kernel_rfl)
      have h5 : Hid (x 5 = .int .i64 (k : Int)) := hd 5 (by kernel_rfl)
      go_simp
      refine calls_args (args2 := #[.agg (bys (hmsg (pre20 I q) (hAt s 0) text)).toArray, .int .i64 (k : Int)]) (by rw [h4.out, h5.out]) ?_
      refine (all_yes (hmsg (pre20 I q) (hAt s 0) text) k _ HK.out (hmsg_length _ _ _)).mono ?_
      rintro e w2 ⟨u, rfl, hown, hb2⟩
      have hDD : allD (hmsg (pre20 I q) (hAt s 0) text) k = D := HDE.out
      rw [hDD] at hown
      exact hK.out _ _ hb2 ⟨u, rfl, hown.rd⟩
    refine StepsAt.cons 7 (fun _ _ _ h hb => AllN.keep h hb) (fun _ _ => rfl) rfl rfl (fun x w1 hb hd K hK => ?_) ?_
    · have h6 : AllN D (x 6) w1 := hd 6 (by kernel_rfl)
      exact hK.out _ _ (Below.refl _ _) h6
    refine StepsAt.cons 8 (fun _ _ _ h hb => RdIN.keep h hb) (fun _ _ => rfl) rfl rfl (fun x w1 hb hd K hK => ?_) ?_
    · have h7 : AllN D (x 7) w1 := hd 7 (by kernel_rfl)
      obtain ⟨u, e7, hu⟩ := h7
      have key := hK.out u w1 (Below.refl _ _) hu
      simp only [Act.put, e7, List.setIfInBounds_toArray, List.set_cons_zero, List.set_cons_succ] at key
      go_simp
      exact key
    refine StepsAt.val 9 (.int .i64 0) rfl (fun _ _ => rfl) rfl rfl (fun x w1 hb hd => ?_) ?_
    · have h7 : AllN D (x 7) w1 := hd 7 (by kernel_rfl)
      obtain ⟨u, e7, hu⟩ := h7
      rw [e7]
      first | (go_simp; done) | (go_simp; rfl)
    refine StepsAt.cons 10 (fun _ _ _ h hb => RdIN.keep h hb) (fun _ _ => rfl) rfl rfl (fun x w1 hb hd K hK => ?_) ?_
    · have h8 : RdIN D (x 8) w1 := hd 8 (by kernel_rfl)
      exact hK.out _ _ (Below.refl _ _) h8
    refine StepsAt.val 11 (.int .i64 0) rfl (fun _ _ => rfl) rfl rfl (fun x w1 hb hd => ?_) ?_
    · have h9 : x 9 = .int .i64 0 := hd 9 (by kernel_rfl)
      rw [h9]
      first | (go_simp; done) | (go_simp; rfl)
    exact StepsAt.done
  case fin =>
    intro x w1 hb hd
    have h9 : x 11 = .int .i64 0 := hd 11 (by omega)
    have h8 : RdIN D (x 10) w1 := hd 10 (by omega)
    refine AnyTill.any (S := fun _ => True) (m := 12) _ _ _ _ ?_
    refine AnyTill.done (by kernel_rfl) ?_
    refine NoPanic.normal ?_
    rw [h9]
    obtain ⟨b, hbE⟩ : ∃ b, w1.heap.size = b := ⟨_, rfl⟩
    have S2 : Hid (Blk w1 g1 z32 30) := R2.out.below hb R2.out.lt
    have S3 : Hid (Blk w1 gp (bys (pre20 I q)) 102) := R3.out.below hb R3.out.lt
    have S5 : Hid (Blk w1 gs (shp k) 105) := R5.out.below hb R5.out.lt
    have SB : Hid (Below w.heap.size w w1) := RB.out.trans (hb.mono RB.out.size)
    obtain ⟨AD, cD, eD, hcD, hmD⟩ := RdI.shape h8
    obtain ⟨aD, hAD, _⟩ := RdI.at_ (by rw [← eD]; exact h8) 0 (by rw [HDL.out]; exact hM0)
    subst hAD
    rw [HDL.out] at eD hcD
    unfold maxLen at hmD
    have S8 : Hid (RdI w1.heap.size w1 (.slice (some aD) M cD) D) := by rw [← eD]; exact h8
    have hg1b : g1 < b := by rw [← hbE]; exact S2.out.lt
    have hgpb : gp < b := by rw [← hbE]; exact S3.out.lt
    have hgsb : gs < b := by rw [← hbE]; exact S5.out.lt
    have hwb : w.heap.size ≤ b := by rw [← hbE]; exact SB.out.size
    have K0 : Hid (CndAt w I q k g1 gp gs b D (.slice (some aD) M cD) (.slice none 0 0) (rowsTo (cndF (pre20 I q) s D k) 0) w1) :=
      ⟨S2.out, S3.out, S5.out, by rw [← hbE]; exact S8.out, Own.nil 5 _ _, by omega, SB.out⟩
    generalize x 0 = y0
    generalize x 1 = y1
    generalize x 2 = y2
    generalize x 3 = y3
    generalize x 4 = y4
    generalize x 5 = y5
    generalize x 6 = y6
    generalize x 7 = y7
    generalize x 8 = y8
    generalize x 9 = y9
    rw [eD]
    clear hd h8 h9 eD hb R2 R3 R5 RB S2 S3 S5 S8 SB hbE x
    go_wp2
    go_loopw [11, 44] (fun v x wr => ∃ i : Nat, i ≤ M ∧ x = .int .i64 (i : Int) ∧ Hid (CndAt w I q k g1 gp gs b D (.slice (some aD) M cD) v (rowsTo (cndF (pre20 I q) s D k) i) wr)) (fun _ x _ => M - (intOf x).toNat)
    case atStart => exact ⟨0, by omega, rfl, K0⟩
    case round =>
      clear K0
      obtain ⟨i, hi, rfl, KK⟩ := hrel
      have hel : (rowsTo (cndF (pre20 I q) s D k) i).length = 32 * i := rowsTo_len2 _ _ (fun j hj => HCL.out j (by omega))
      obtain ⟨A4, c4, hv4, hc4, hm4⟩ := KK.out.2.2.2.2.1.rd.shape
      rw [hel] at hv4 hc4
      subst hv4
      unfold maxLen at hm4
      have HEL := Lib.hid hel
      clear hel
      by_cases hi2 : i < M
      · have zi : (i : Int) < (M : Int) := by omega
        have hi3 : i < 65536 := by omega
        obtain ⟨d, hd⟩ : ∃ d, D.getD i 0 = d := ⟨_, rfl⟩
        obtain ⟨aD', hAD, cd⟩ := KK.out.2.2.2.1.at_ i (by rw [HDL.out]; exact hi2)
        injection hAD with hAD
        subst hAD
        rw [hd] at cd
        have hdG : d ≤ G := by rw [← hd]; exact HDG.out i
        have HDI := Lib.hid hd
        clear hd
        have hwg1 : g1 < wr.heap.size := KK.out.1.lt
        have hwgp : gp < wr.heap.size := KK.out.2.1.lt
        have hwgs : gs < wr.heap.size := KK.out.2.2.1.lt
        have hce := HCL.out i hi2
        have HCE := Lib.hid hce
        have H24e : Hid ((Tryz.prog.info? 30).map (·.size) = some (bys (cndF (pre20 I q) s D k i)).length) := by show _ = _; rw [bys_length, hce]; exact s24
        have HLZe : Hid (z32.length = (bys (cndF (pre20 I q) s D k i)).length) := by show _ = _; rw [bys_length, hce, z32_length]
        obtain ⟨J, hJ⟩ : ∃ J, i + 1 = J := ⟨_, rfl⟩
        have HJ := Lib.hid hJ
        clear hce hJ
        go_wp2
        clear cd
        refine wp_region_rely2 11 1 (fun x => ⟨#[Value.agg (bys I).toArray, Value.int IntKind.u32 ↑q, Value.slice At text.length ct, Value.slice As s.length cs, Value.pointer (some { block := g0, off := 0 }), undef, undef, undef, Value.pointer (some { block := g1, off := 0 }), Value.int IntKind.i64 0, Value.slice (some aD) M cD, Value.slice A4 (32 * i) c4, Value.pointer (some { block := gp, off := 0 }), Value.int IntKind.i64 ↑k, Value.pointer (some { block := gs, off := 0 }), Value.int IntKind.i64 0, Value.int IntKind.i64 ↑i, Value.int IntKind.i64 ↑d, x 10, Value.agg (bys I).toArray, Value.int IntKind.u32 ↑q, Value.agg (bys (pre20 I q)).toArray, Value.tuple #[Value.int IntKind.i64 ↑k, Value.agg (shp k).toArray, Value.int IntKind.i64 0], Value.slice As s.length cs, Value.tuple #[Value.int IntKind.i64 ↑k, Value.agg (shp k).toArray, Value.int IntKind.i64 0], Value.int IntKind.i64 ↑k, Value.agg (shp k).toArray, Value.int IntKind.i64 0, Value.int IntKind.i64 0, Value.bool false, y7, y0, y1, y2, y3, y4, y5, y6, y8, y9, Value.int IntKind.i64 0, Value.bool false, Value.slice (some aD) M cD, Value.int IntKind.i64 ↑M, Value.int IntKind.i64 ↑i, Value.bool true, Value.int IntKind.i64 ↑i, Value.pointer (some (aD.add i)), Value.int IntKind.i64 ↑d, x 0, x 1, x 2, x 3, x 4, x 5, x 6, x 7, x 8, x 9, u59, u60, u61, u62, undef, undef, undef, undef, undef], []⟩) (fun jj => ([eqV (.agg (bys (pre20 I q)).toArray), eqV (.int .i64 (i : Int)), eqV (.int .i64 (d : Int)), eqV (.pointer (some ⟨gs, 2, none⟩)), eqV (.int .i64 (G : Int)), eqV (.slice As s.length cs), eqV (.int .i64 (i : Int)), eqV (.int .i64 (J : Int)), (eqV (.agg (bys (hAt s (i + 1))).toArray)), (eqV (.agg (bys (cndF (pre20 I q) s D k i)).toArray)), (NewB wr.heap.size)] : List (Value → World → Prop)).getD jj (fun _ _ => True)) rfl ⟨fun kk => [_, _, _, _, _, _, _, _, _, _, _].getD kk undef, rfl⟩ (by kernel_rfl) (by kernel_rfl) ?steps ?fin
        case steps =>
          refine StepsAt.val 0 (.agg (bys (pre20 I q)).toArray) rfl (fun _ _ => rfl) rfl rfl (fun x w9 hb hd => ?_) ?_
          · exact run_load_blk 102 (.tmp 12) rfl gp rfl (bys (pre20 I q)) 102 (KK.out.2.1.below hb hwgp) 20 5 tu67 H67.out
          refine StepsAt.val 1 (.int .i64 (i : Int)) rfl (fun _ _ => rfl) rfl rfl (fun x w9 hb hd => ?_) ?_
          · first | (go_simp; done) | (go_simp; rfl)
          refine StepsAt.val 2 (.int .i64 (d : Int)) rfl (fun _ _ => rfl) rfl rfl (fun x w9 hb hd => ?_) ?_
          · first | (go_simp; done) | (go_simp; rfl)
          refine StepsAt.val 3 (.pointer (some ⟨gs, 2, none⟩)) rfl (fun _ _ => rfl) rfl rfl (fun x w9 hb hd => ?_) ?_
          · first | (go_simp; done) | (go_simp; rfl)
          refine StepsAt.val 4 (.int .i64 (G : Int)) rfl (fun _ _ => rfl) rfl rfl (fun x w9 hb hd => ?_) ?_
          · have h3 : x 3 = .pointer (some ⟨gs, 2, none⟩) := hd 3 (by kernel_rfl)
            have c := ((KK.out.2.2.1.below hb hwgs).cell 2).trans HC2.out
            rw [h3]
            first | (go_simp; done) | (go_simp; rfl)
          refine StepsAt.val 5 (.slice As s.length cs) rfl (fun _ _ => rfl) rfl rfl (fun x w9 hb hd => ?_) ?_
          · first | (go_simp; done) | (go_simp; rfl)
          refine StepsAt.val 6 (.int .i64 (i : Int)) rfl (fun _ _ => rfl) rfl rfl (fun x w9 hb hd => ?_) ?_
          · first | (go_simp; done) | (go_simp; rfl)
          refine StepsAt.val 7 (.int .i64 (J : Int)) rfl (fun _ _ => rfl) rfl rfl (fun x w9 hb hd => ?_) ?_
          · have h6 : x 6 = .int .i64 (i : Int) := hd 6 (by kernel_rfl)
            rw [h6]
            have zz : (i : Int) + 1 = (J : Int) := by have := HJ.out; omega
            go_simp
            first | done | exact wrap_i64 _ (by omega) (by have := HJ.out; omega)
          refine StepsAt.cons 8 (fun _ _ _ h hb => h) (fun _ _ => rfl) rfl rfl (fun x w9 hb hd K hK => ?_) ?_
          · have h5 : Hid (x 5 = .slice As s.length cs) := hd 5 (by kernel_rfl)
            have h7 : Hid (x 7 = .int .i64 (J : Int)) := hd 7 (by kernel_rfl)
            go_simp
            refine calls_args (args2 := #[.slice As s.length cs, .int .i64 ((i + 1 : Nat) : Int)]) (by rw [h5.out, h7.out, HJ.out]) ?_
            refine (hashIn_any _ s (i + 1) _ (((HSV.out.below KK.out.2.2.2.2.2.2).below (hb.mono KK.out.2.2.2.2.2.2.size)).more (Nat.le_trans KK.out.2.2.2.2.2.2.size hb.size)) (by rw [HSN.out]; omega) hsm).mono ?_
            rintro e w2 ⟨rfl, hb2⟩
            exact hK.out _ _ hb2 rfl
          refine StepsAt.cons 9 (fun _ _ _ h hb => h) (fun _ _ => rfl) rfl rfl (fun x w9 hb hd K hK => ?_) ?_
          · have h0 : Hid (x 0 = .agg (bys (pre20 I q)).toArray) := hd 0 (by kernel_rfl)
            have h1 : Hid (x 1 = .int .i64 (i : Int)) := hd 1 (by kernel_rfl)
            have h2 : Hid (x 2 = .int .i64 (d : Int)) := hd 2 (by kernel_rfl)
            have h4 : Hid (x 4 = .int .i64 (G : Int)) := hd 4 (by kernel_rfl)
            have h8 : Hid (x 8 = .agg (bys (hAt s (i + 1))).toArray) := hd 8 (by kernel_rfl)
            go_simp
            refine calls_args (args2 := #[.agg (bys (pre20 I q)).toArray, .int .i64 (i : Int), .int .i64 (d : Int), .int .i64 ((d + (G - d) : Nat) : Int), .agg (bys (hAt s (i + 1))).toArray]) (by rw [h0.out, h1.out, h2.out, h4.out, h8.out, show d + (G - d) = G by omega]) ?_
            refine (chain_any (pre20 I q) (hAt s (i + 1)) i d (G - d) _ HP.out (hAt_length _ _ (by rw [HSN.out]; omega)) hi3 (by omega)).mono ?_
            rintro e w2 ⟨rfl, hb2⟩
            refine hK.out _ _ hb2 ?_
            unfold cndF
            rw [HDI.out, HGE.out]
            rfl
          refine StepsAt.cons 10 (fun _ _ _ h hb => NewB.keep h hb) (fun _ _ => rfl) rfl rfl (fun x w9 hb hd K hK => ?_) ?_
          · refine wp_of_list rfl (wpList_alloc_blk rfl 30 rfl _ z24 ?_)
            intro w2 b1 b2 b3
            exact hK.out _ _ b3 ⟨_, rfl, b1, hb.size⟩
          exact StepsAt.done
        case fin =>
          intro x w9 hb hd
          have hr : x 9 = .agg (bys (cndF (pre20 I q) s D k i)).toArray := hd 9 (by omega)
          obtain ⟨g, e7, hg7, hgb⟩ : NewB wr.heap.size (x 10) w9 := hd 10 (by omega)
          refine AnyTill.any (S := fun _ => True) (m := 12) _ _ _ _ ?_
          refine AnyTill.one (i := 11) (by kernel_rfl) rfl (by rfl) (fun K hK => ?_)
          refine wp_store_blk 30 (.tmp 18) (.tmp 58) rfl g (bys (cndF (pre20 I q) s D k i)) z32 30 e7 hr hg7 H24e.out HLZe.out (bys_one' _) ?_
          refine hK.out _ _ (.inr trivial) ?_
          clear hK K
          refine AnyTill.done (by kernel_rfl) ?_
          refine NoPanic.normal ?_
          simp only [Act.put]
          have hbF : Below wr.heap.size wr (w9.setRow g (bys (cndF (pre20 I q) s D k i)).toArray) := below_setRow' hb hgb _
          have KF : Hid (CndAt w I q k g1 gp gs b D (.slice (some aD) M cD) (.slice A4 (32 * i) c4) (rowsTo (cndF (pre20 I q) s D k) i) (w9.setRow g (bys (cndF (pre20 I q) s D k i)).toArray)) := KK.out.below hbF
          have LG : Hid (Blk (w9.setRow g (bys (cndF (pre20 I q) s D k i)).toArray) g (bys (cndF (pre20 I q) s D k i)) 30) := hg7.setRow
          have hgF : g < (w9.setRow g (bys (cndF (pre20 I q) s D k i)).toArray).heap.size := LG.out.lt
          generalize w9.setRow g (bys (cndF (pre20 I q) s D k i)).toArray = wf at KF LG hgF ⊢
          rw [e7]
          clear hd hr hbF KK hb hg7 e7
          go_wp2_with (at_builtin; refine wpList_app rfl _ _ 22 rfl 5 i0 Tryz.underlying22 HIN.out H0.out H1.out H2.out b wf.heap.size _ _ (rowsTo (cndF (pre20 I q) s D k) i) (cndF (pre20 I q) s D k i) rfl KF.out.2.2.2.2.1 rfl (Rd.blk 32 HCE.out LG.out hgF (by omega)) (by rw [HEL.out, HCE.out]; omega) KF.out.2.2.2.2.2.1 ?_)
          intro v5 w5 hown5 hb5
          have K5 : Hid (CndAt w I q k g1 gp gs b D (.slice (some aD) M cD) v5 (rowsTo (cndF (pre20 I q) s D k) (i + 1)) w5) := by
            obtain ⟨f1, f2, f3, f4, f5, f6, f7⟩ := KF.out
            rw [rowsTo_succ]
            exact ⟨f1.below hb5 hg1b, f2.below hb5 hgpb, f3.below hb5 hgsb, f4.below hb5, hown5, Nat.le_trans f6 hb5.size, f7.trans (hb5.mono hwb)⟩
          clear hown5 hb5 KF LG hgF
          go_wp2
          go_roundw
          case rel => exact ⟨i + 1, by omega, by go_num, K5⟩
          case measure => simp [intOf]; omega
      · have hiM : i = M := by omega
        subst hiM
        have zi : ¬ ((i : Int) < (i : Int)) := by omega
        have N1 : Hid (Blk wr gp (bys (pre20 I q)) 102) := KK.out.2.1
        have N2 : Hid (Blk wr g1 z32 30) := KK.out.1
        have NO : Hid (Own 5 wr b (.slice A4 (32 * i) c4) (rowsTo (cndF (pre20 I q) s D k) i)) := KK.out.2.2.2.2.1
        have NB : Hid (Below w.heap.size w wr) := KK.out.2.2.2.2.2.2
        clear KK
        go_wp2_with (refine wpList_load_blk rfl 102 _ rfl gp rfl (bys (pre20 I q)) 102 N1.out 20 5 tu67 H67.out ?_)
        refine (publicHash_any (pre20 I q) (rowsTo (cndF (pre20 I q) s D k) i) _ _ HP.out NO.out.rd (by rw [HEL.out]; omega)).mono ?_
        rintro e w6 ⟨rfl, hb⟩
        have X2 : Hid (Blk w6 g1 z32 30) := N2.out.below hb N2.out.lt
        have XB : Hid (Below w.heap.size w w6) := NB.out.trans (hb.mono NB.out.size)
        rw [show hpub (pre20 I q) (rowsTo (cndF (pre20 I q) s D k) i) = cndL (pre20 I q) s text k by unfold cndL; rw [HME.out, HDE.out]]
        clear hb N1 N2 NO NB
        go_wp2_with (refine wpList_store_blk rfl 30 _ _ rfl g1 (bys (cndL (pre20 I q) s text k)) z32 30 rfl rfl X2.out H24.out HLZ.out (bys_one' _) ?_)
        rw [jump_ret]
        refine bodyPost_ret (v := .tuple #[.agg (bys (cndL (pre20 I q) s text k)).toArray, .int .i64 0]) ?_ rfl ?_
        · exact ret_blk2 rfl _ _ g1 30 _ _ rfl rfl X2.out.setRow 32 5 tu24 H24.out
        · exact ⟨rfl, below_setRow' XB.out (by omega) _⟩
end Go.Proofs.YtllncnnigjgadaaGreat

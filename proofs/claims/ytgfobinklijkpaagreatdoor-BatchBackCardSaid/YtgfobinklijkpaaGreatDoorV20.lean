/-
  Texts BD IK IL0.
-/
import Derived.Test.YtgfobinklijkpaaGreatDoorV01
import Derived.Lib.ConvBytes
import Derived.Test.YtgfobinklijkpaaGreatDoorV07
import Derived.Test.YtgfobinklijkpaaGreatDoorV09
import Derived.Test.YtgfobinklijkpaaGreatDoorV13
import Derived.Test.YtgfobinklijkpaaGreatDoorV18
import Derived.Test.YtgfobinklijkpaaGreatDoorV19
namespace Go.Proofs.YtgfobinklijkpaaGreatDoor
set_option maxRecDepth 100000
set_option maxHeartbeats 16000000
open Go.RowKit
theorem bytes_any {P : Program} (w : World) (src dst e : TypeId) (s : List UInt8) (hs : P.underlying src = some .string) (hd : P.underlying dst = some (.slice e)) (he : P.underlying e = some (.int .u8)) (hl : s.length ≤ maxLen) :
 ∃ A c w', (convert src dst (txt s)).run P w = .ok (.slice A s.length c) w' ∧ Rd w'.heap.size w' (.slice A s.length c) s ∧ Below w.heap.size w w' := by
 have hsz : (⟨s.toArray⟩ : ByteArray).size = s.length := ba_size s
 refine ⟨some ⟨w.heap.size, 0, none⟩, grownCap w s.length 0 e, Lib.bytesWorld w e ⟨s.toArray⟩, ?_, ?_, ?_⟩
 ·have h := Lib.run_convert_string_bytes w src dst e ⟨s.toArray⟩ hs hd he
  rw [hsz] at h
  exact h
 ·refine ⟨_, _, rfl, grownCap_ge _ _ _ _, grownCap_le_maxLen _ _ _ _ hl, (fun h => by cases h), fun a ha => ?_⟩
  injection ha with ha
  subst ha
  refine ⟨fun _ => by rw [Lib.bytesWorld_size]; exact Nat.lt_succ_self _, fun j hj => ?_⟩
  have h := Lib.bytesWorld_cell w e ⟨s.toArray⟩ j (by rw [hsz]; exact hj)
  have ha : (⟨w.heap.size, 0, none⟩ : Addr).add j = ⟨w.heap.size, j, none⟩ := by simp only [Addr.add]; split <;> simp_all
  rw [ha, h]
  simp [hj]
 ·exact ⟨rfl, rfl, rfl, by rw [Lib.bytesWorld_size]; omega, fun k hk => Lib.bytesWorld_at_old w e _ k hk⟩
def DecO (d : Option (List Or)) (w : World) (e : Ending) (w' : World) : Prop :=
 ∃ v, e = .returned (.tuple #[v, .int .i64 (if d.isSome then 0 else 3)]) ∧ RdE OrK w'.heap.size w' v (d.getD []) ∧ Below w.heap.size w w'
theorem DecO.no {d : Option (List Or)} {w w' : World} (h : d = none) (hb : Below w.heap.size w w') : DecO d w (.returned (.tuple #[.slice none 0 0, .int .i64 3])) w' := by
 subst h
 exact ⟨_, rfl, RdE.nil _ _, hb⟩
theorem takeOs_stop (k : Nat) (acc : List Or) (b : List UInt8) (h : (takeO b).2.2 ≠ 0) : takeOs (k + 1) acc b = none := by
 show (if (takeO b).2.2 = 0 then _ else none) = none
 rw [if_neg h]
theorem takeOs_step (k : Nat) (acc : List Or) (b r : List UInt8) (o : Or) (h : takeO b = (o, r, 0)) : takeOs (k + 1) acc b = takeOs k (acc ++ [o]) r := by
 show (if (takeO b).2.2 = 0 then takeOs k (acc ++ [(takeO b).1]) (takeO b).2.1 else none) = _
 rw [h, if_pos rfl]
theorem btDecode_any (s : List UInt8) (w : World) (hl : s.length ≤ 1000000) : Calls Tryz.prog 12 #[txt s] w (DecO (decB s) w) := by
 obtain ⟨dO, huO, hdO⟩ := rowOrP
 have HL := lhd hl
 clear hl
 go_enter Tryz.func12, Tryz.ntmps12
 obtain ⟨A, c, w1, hcv, hrd, hb1⟩ := bytes_any (P := Tryz.prog) w 9 92 5 s Tryz.underlying9 Tryz.underlying92 Tryz.underlying5 (by have := HL.out; unfold maxLen; omega)
 have R1 := lhd hrd
 have B1 := lhd hb1
 clear hrd hb1
 go_wp2_with fail
 refine (take_any (.slice A s.length c) s w1 R1.out (by have := HL.out; omega)).mono ?_
 rintro e w2 ⟨v2, rfl, hown, hb⟩
 have hsz1 := B1.out.size
 have hN := takeN_lt s
 have hrest := takeN_rest s
 obtain ⟨⟨n, rest, er⟩, hT⟩ : ∃ q, takeN s = q := ⟨_, rfl⟩
 rw [hT] at hown hN hrest
 dsimp only at hown hN hrest
 have hrl : rest.length ≤ 1000000 := Nat.le_trans hrest HL.out
 have HT := lhd hT
 have R2 : Hid (Rd w2.heap.size w2 v2 rest) := lhd hown.rd
 have B2 := lhd (B1.out.trans (hb.mono hsz1))
 have hn2 : (n : Int) ≤ 18446744073709551615 := by omega
 rw [hT]
 dsimp only
 clear hT hown hb hrest hcv R1 B1 hsz1
 by_cases he : er = 0
 ·subst he
  by_cases h10 : (10 : Int) < (n : Int)
  ·have HX := lhd (decB_few s (.inr (by rw [HT.out]; show 10 < n; omega)))
   go_wp2
   go_ret2
   exact DecO.no HX.out B2.out
  have hk10 : n ≤ 10 := by omega
  have h10f : decide ((10 : Int) < (n : Int)) = false := decide_eq_false h10
  go_wp2
  go_loopw [5, 6, 7, 23] (fun vr er vl x wr => ∃ k : Nat, k ≤ n ∧ x = .int .u64 (k : Int) ∧ ∃ (acc : List Or) (r : List UInt8), er = .int .i64 0 ∧ acc.length = k ∧ r.length ≤ 1000000 ∧ Hid (takeOs n [] rest = takeOs (n - k) acc r) ∧ Hid (Rd wr.heap.size wr vr r) ∧ Hid (OwnE OrK 86 wr w.heap.size vl acc) ∧ Hid (Below w.heap.size w wr)) (fun _ _ _ x _ => n - (intOf x).toNat)
  case atStart => exact ⟨0, Nat.zero_le _, rfl, [], rest, rfl, rfl, hrl, rfl, R2, OwnE.nil _ _ _, B2⟩
  case round =>
   clear R2 B2 hrl
   obtain ⟨k, hk, rfl, acc, r, rfl, hac, hrl, HK, HR, HO, HB⟩ := hrel
   have hsz := HB.out.size
   by_cases hlt : k < n
   ·have hlt2 : decide ((k : Int) < (n : Int)) = true := by simp; omega
    go_wp2_with (refine wpList_alloc_blk rfl 86 rfl (orc or0) zeroOrP ?_)
    intro wa a1 a2 a3
    obtain ⟨g, hg⟩ : ∃ g, wr.heap.size = g := ⟨_, rfl⟩
    have A1 := lhd a1
    have BA := lhd a3
    have HG := lhd hg
    have Ra := lhd ((HR.out.below a3).more a3.size)
    have hga : g < wa.heap.size := by rw [← hg]; exact a1.lt
    rw [hg] at A1 ⊢
    clear a1 a2 a3 hg
    go_wp2_with fail
    refine (orTake_own u5 r wa Ra.out hrl).mono ?_
    rintro e w3 ⟨v3, rfl, hr3, hb⟩
    obtain ⟨⟨o, r', er'⟩, hq⟩ : ∃ q, takeO r = q := ⟨_, rfl⟩
    have hless := takeO_lessB r
    rw [hq] at hr3 hless ⊢
    dsimp only at hr3 hless ⊢
    have hrl2 : r'.length ≤ 1000000 := Nat.le_trans hless hrl
    have HQ := lhd hq
    have R3 := lhd hr3
    have A3 := lhd (A1.out.below hb A1.out.lt)
    have B3 : Hid (Below wr.heap.size wr w3) := lhd (BA.out.trans (hb.mono BA.out.size))
    have ek : n - k = (n - (k + 1)) + 1 := by omega
    have HE := lhd ek
    clear hq hless hr3 hb ek Ra A1 BA HR
    go_wp2_with (refine wpList_store_to rfl 86 _ _ rfl g (orc o) (orc or0) 86 rfl rfl A3.out szOrP rfl (orc_all o) ?_)
    intro w4 e1 e2 e3 e4
    have A4 := lhd e1
    have B4 : Hid (Below wr.heap.size wr w4) := lhd (B3.out.trans (by rw [HG.out]; exact e3))
    have R4 : Hid (Own 5 w4 wa.heap.size v3 r') := lhd (R3.out.storedB hga e4)
    clear e1 e2 e3 e4 A3 B3 R3
    by_cases he3 : er' = 0
    ·subst he3
     have HK2 : Hid (takeOs n [] rest = takeOs (n - (k + 1)) (acc ++ [o]) r') := lhd (by rw [HK.out, HE.out, takeOs_step _ _ _ _ _ HQ.out])
     have O4 := lhd (HO.out.below B4.out (Nat.le_refl _))
     have hex : orc o = [.int .i64 (oC o), .int .i64 (oQ o), .int .i64 (oK o), txt (oP o), txt (oV o), .int .i64 (oR o), .int .i64 (oS o), .int .i64 (oT o)] := rfl
     clear HK HE HQ
     clear hex
     go_wp2_with (first | refine wpList_load_part rfl 86 _ rfl g 0 (orc o) [.int .i64 (oC o), .int .i64 (oQ o), .int .i64 (oK o), txt (oP o), txt (oV o), .int .i64 (oR o), .int .i64 (oS o), .int .i64 (oT o)] 86 rfl A4.out rfl huO hdO szOrP ?_ | (at_builtin; refine wpList_appF (E := OrK) rfl _ _ 22 rfl 86 80 Tryz.underlying22 kindOrP w.heap.size _ _ _ acc [o] rfl (O4.out.alloc _) rfl (RdE.one w4 86 o) ?d1 ?d2 ?d3 ?_))
     case d1 => simp only [List.length_cons, List.length_nil, hac]; omega
     case d2 => simp only [List.length_cons, List.length_nil, hac]; omega
     case d3 => have := B4.out.size; simp; omega
     intro v' we m1 m2 m3
     have hba : Below w4.heap.size w4 (w4.alloc (.cells (orc o).toArray 86)) := (Below.refl w4.heap.size w4).alloc (Nat.le_refl _) _
     have hs4 : w.heap.size ≤ w4.heap.size := Nat.le_trans hsz B4.out.size
     have HOe := lhd m1
     have HBe : Hid (Below w.heap.size w we) := lhd ((HB.out.trans (B4.out.mono hsz)).trans ((hba.mono hs4).trans m2))
     have Re : Hid (Rd we.heap.size we v3 r') := lhd (Own.rd (ownsRow_other (by decide) (R4.out.alloc (.cells (orc o).toArray 86)) (O4.out.alloc (.cells (orc o).toArray 86)) m3))
     clear m1 m2 m3 hba hs4 O4 B4 R4 A4 HB HO HG
     go_wp2
     go_roundw
     case rel => exact ⟨k + 1, by omega, by go_num, acc ++ [o], r', rfl, by simp only [List.length_append, List.length_cons, List.length_nil]; omega, hrl2, HK2, Re, HOe, HBe⟩
     case measure => simp [intOf]; omega
    ·have he4 : ((er' : Int) != 0) = true := by simp; omega
     have HX := lhd (decB_bad s (by rw [HT.out]; show takeOs n [] rest = none; rw [HK.out, HE.out]; exact takeOs_stop _ _ _ (by rw [HQ.out]; exact he3)))
     have HB5 := lhd (HB.out.trans (B4.out.mono hsz))
     go_wp2
     go_ret2
     exact DecO.no HX.out HB5.out
   ·obtain rfl : k = n := by omega
    have h1 := decB_ends s acc r (by rw [HT.out]) (by rw [HT.out]; exact hk10) (by rw [HT.out]; show takeOs k [] rest = _; rw [HK.out, Nat.sub_self]; rfl)
    have HX := lhd h1
    clear h1
    obtain ⟨A5, c5, rfl, -, -⟩ := HR.out.shape
    obtain ⟨m, hm⟩ : ∃ m, r.length = m := ⟨_, rfl⟩
    have HM := lhd hm
    rw [hm] at hrl ⊢
    clear hm
    by_cases hm0 : (0 : Int) < (m : Int)
    ·have HX2 : Hid (decB s = none) := lhd (by
      rw [HX.out, if_neg]
      intro h
      have := HM.out
      rw [h] at this
      simp only [List.length_nil] at this
      omega)
     go_wp2
     go_ret2
     exact DecO.no HX2.out HB.out
    ·have HX2 : Hid (decB s = some acc) := lhd (by
      rw [HX.out, if_pos]
      apply List.length_eq_zero_iff.1
      rw [HM.out]
      omega)
     have HR7 := lhd HO.out.rd
     go_wp2
     go_ret2
     rw [HX2.out]
     exact ⟨_, rfl, HR7.out, HB.out⟩
 ·have he1 : ((er : Int) != 0) = true := by simp; omega
  have HX := lhd (decB_few s (.inl (by rw [HT.out]; exact he)))
  go_wp2
  go_ret2
  exact DecO.no HX.out B2.out
theorem RdE.at6 {B : Nat} {w : World} {A : Option Addr} {n c : Nat} {l : List RpV} (h : RdE RvK B w (.slice A n c) l) (j : Nat) (hj : j < l.length) :
 ∃ a, A = some a ∧ w.cell? (a.add (j * 6)) = some (.int .i64 (l.getD j rv0).1) ∧ w.cell? ⟨(a.add (j * 6)).block, (a.add (j * 6)).off + 1, none⟩ = some (.int .i64 (l.getD j rv0).2.1) ∧ w.cell? ⟨(a.add (j * 6)).block, (a.add (j * 6)).off + 2, none⟩ = some (.int .i64 (l.getD j rv0).2.2.1) ∧
   w.cell? ⟨(a.add (j * 6)).block, (a.add (j * 6)).off + 3, none⟩ = some (txt (l.getD j rv0).2.2.2.1) ∧ w.cell? ⟨(a.add (j * 6)).block, (a.add (j * 6)).off + 4, none⟩ = some (.int .i64 (l.getD j rv0).2.2.2.2.1) ∧ w.cell? ⟨(a.add (j * 6)).block, (a.add (j * 6)).off + 5, none⟩ = some (slv (l.getD j rv0).2.2.2.2.2) := by
 obtain ⟨a, ha, hc⟩ := h.cells j hj
 exact ⟨a, ha, hc 0 (by decide), hc 1 (by decide), hc 2 (by decide), hc 3 (by decide), hc 4 (by decide), hc 5 (by decide)⟩
abbrev zRv : Value := .agg (rvc rv0).toArray
theorem infoQRv : (Tryz.prog.info? 79).map (fun i => (i.zero, i.size, i.bytes)) = some (some zRv, 6, 72) := by kernel_rfl
theorem infoPRv : ∃ i, Tryz.prog.info? 79 = some i ∧ i.zero = some zRv ∧ i.size = 6 ∧ i.bytes = 72 := by
 have h := infoQRv
 cases hi : Tryz.prog.info? 79 with
 | none => rw [hi] at h; simp at h
 | some i =>
   rw [hi] at h
   simp at h
   exact ⟨i, rfl, h.1, h.2.1, h.2.2⟩
theorem kindPRv : KindOf Tryz.prog 79 RvK 72 := kind_of (z := zRv) (by kernel_rfl) rfl
theorem sizeRv : (Tryz.prog.info? 79).map (·.size) = some 6 := by kernel_rfl
theorem rwLenRv (l : List RpV) : (rowsE RvK l).length = l.length * 6 := rowsE_length RvK l
theorem rwCutRv (l : List RpV) (i : Nat) (hi : i < l.length) : (rowsE RvK l).take (i * 6) = rowsE RvK (l.take i) ∧ (rowsE RvK l).drop (i * 6 + 6) = rowsE RvK (l.drop (i + 1)) := rowsE_cut (E := RvK) l i hi
theorem ownBlkRv {e : TypeId} {w : World} {base n cap g : Nat} {l : List RpV} (h : OwnE RvK e w base (.slice (some ⟨g, 0, none⟩) n cap) l) : ∃ cur : Array Value, Blk w g cur.toList e ∧ base ≤ g ∧ l.length ≤ cap ∧ cap ≤ maxLen ∧ cur.size = cap * 6 ∧ cur.toList.take (l.length * 6) = rowsE RvK l ∧ n = l.length := h.block
theorem insRRv (l : List RpV) (x : RpV) (m : Nat) : rowsE RvK (insE l x m) = rowsE RvK (l.take m) ++ (rvc x ++ rowsE RvK (l.drop m)) := insE_rows l x m
theorem run_copyERv (w : World) (dT sT ty elem : TypeId) (b o dLen dCap : Nat) (a : Addr) (sLen sCap : Nat) (cs : List Value)
 (hu : Tryz.prog.underlying dT = some (.slice elem)) (hs : (Tryz.prog.info? elem).map (·.size) = some 6) (hn : cs.length = Nat.min sLen dLen * 6)
 (hsrc : ∀ j v, cs[j]? = some v → w.cell? (a.add j) = some v) (hc : ∀ j, j < cs.length → (w.cell? ⟨b, o + j, none⟩).isSome = true ∧ w.frozen? ⟨b, o + j, none⟩ = false) (h1 : ∀ v ∈ cs, v.oneCell' = true) :
 (Builtin.copy_ #[dT, sT] ty #[.slice (some ⟨b, o, none⟩) dLen dCap, .slice (some a) sLen sCap]).run Tryz.prog w = .ok (goInt (Nat.min sLen dLen)) (w.setCells b o cs) := run_copy_rowE w dT sT ty elem 6 b o dLen dCap a sLen sCap cs hu hs hn hsrc hc h1
theorem clone_anyRv (l : List RpV) (v : Value) (w : World) (hr : RdE RvK w.heap.size w v l) (hl : l.length ≤ 100000) : Calls Tryz.prog 89 #[v] w (OwnsE RvK 79 l w) := by
 obtain ⟨i1, hJ, hy0, hy1, hy2⟩ := infoPRv
 obtain ⟨A, cp, rfl, hc, hm⟩ := hr.shape
 unfold maxLen at hm
 cases A with
 | none =>
   obtain ⟨A', c', hv, _, _, hn, _⟩ := hr
   injection hv with q1 q2 q3
   subst q1 q3
   have h0 := hn rfl
   have h1 : l = [] := List.eq_nil_of_length_eq_zero (by omega)
   subst h1
   subst h0
   have he : ∀ w, (binOp .eql 48 (.slice none 0 0) (.slice none 0 0)).run Tryz.prog w = .ok (.bool true) w := fun _ => rfl
   go_enter Tryz.func89, Tryz.ntmps89
   go_wp2
   go_ret
   exact ⟨_, rfl, OwnE.nil _ _ _, Below.refl _ _⟩
 | some a =>
   have HR := lhd hr
   have HL := lhd hl
   obtain ⟨n, hn⟩ : ∃ n, l.length = n := ⟨_, rfl⟩
   rw [hn] at HR hc ⊢
   clear hr hl hn
   have he : ∀ w, (binOp .eql 48 (.slice (some a) n cp) (.slice none 0 0)).run Tryz.prog w = .ok (.bool false) w := fun _ => rfl
   have HO : Hid (OwnE RvK 79 (w.alloc (.cells #[] 79)) w.heap.size (.slice (some ⟨w.heap.size, 0, none⟩) 0 0) []) := OwnE.empty (E := RvK) 79 w w.heap.size (Nat.le_refl _)
   have HA : Hid (Below w.heap.size w (w.alloc (.cells #[] 79))) := (Below.refl _ _).alloc (Nat.le_refl _) _
   have HR2 := lhd (HR.out.below HA.out)
   go_enter Tryz.func89, Tryz.ntmps89
   go_wp2_with (at_builtin; refine wpList_appF (E := RvK) rfl _ _ 48 rfl 79 72 Tryz.underlying48 kindPRv w.heap.size _ _ _ [] l rfl HO.out rfl HR2.out ?d1 ?d2 ?d3 ?_)
   case d1 => have := HL.out; simp; omega
   case d2 => have := HL.out; simp; omega
   case d3 => simp
   intro v' w' h1 h2 h3
   have H1 := lhd h1
   have H2 := lhd (HA.out.trans h2)
   clear h1 h2 h3
   go_wp2
   go_ret
   exact ⟨_, rfl, H1.out, H2.out⟩
end Go.Proofs.YtgfobinklijkpaaGreatDoor

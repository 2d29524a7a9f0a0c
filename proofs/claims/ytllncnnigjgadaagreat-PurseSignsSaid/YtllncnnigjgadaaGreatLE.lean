/-
  Package lms: Verify said by lists; what a tree signs fits its public key; the laws' fixed question, which is answered yes.
  The laws' fixed question of layer 5: it is answered yes, whatever the world.
-/
import Derived.Test.YtllncnnigjgadaaGreatLB
import Derived.Test.YtllncnnigjgadaaGreatKA
import Derived.Test.YtllncnnigjgadaaGreatKx
import Derived.Lib.SlBytesConst
namespace Go.Proofs.YtllncnnigjgadaaGreat
open Go.RowKit

/-- Public key and signature have the form of this width and height. -/
def VFit (p s : List UInt8) (k h : Nat) : Prop := p.length = 56 ∧ LFit (wd p 0) (wd (p.drop 4) 0) k h ∧ s.length = llng k h ∧ wd ((s.drop 4).take (lng k)) 0 = typ k ∧ wd (s.drop (4 + lng k)) 0 = knd h ∧ wd s 0 < 2 ^ h

theorem wd_take (l : List UInt8) (n : Nat) (hn : 4 ≤ n) : wd (l.take n) 0 = wd l 0 := by
  unfold wd
  simp only [List.getD_eq_getElem?_getD, List.getElem?_take]
  rw [if_pos (by omega), if_pos (by omega), if_pos (by omega), if_pos (by omega)]
theorem wd_be (n : Nat) (l : List UInt8) (hn : n < 4294967296) : wd (be 4 n ++ l) 0 = n := by
  rw [wd_sum]
  simp [be]
  omega

set_option maxRecDepth 100000 in
theorem verT_no (p s : List UInt8) (pv tv sv : Value) (w : World) (hp : Rd w.heap.size w pv p) (hs : Rd w.heap.size w sv s) (hn : ∀ k h, ¬ VFit p s k h) : Calls Tryz.prog 9 #[pv, tv, sv] w (One (.int .i64 3) w) := by
  by_cases hl : p.length = 56
  · by_cases hf : ∃ k h, LFit (wd p 0) (wd (p.drop 4) 0) k h
    · obtain ⟨k, h, hf⟩ := hf
      refine verT_badparts k h ((p.drop 8).take 16) (p.drop 24) pv tv sv w (by rw [List.length_take, List.length_drop, hl]; omega) (by rw [List.length_drop, hl]) hf.1 hf.2.1 (fun w' hb => keyIn_yes pv p k h w' ((hp.below hb).more hb.size) hl hf) (fun w' hb => ?_)
      have hs' := (hs.below hb).more hb.size
      by_cases h1 : s.length = llng k h
      · by_cases h2 : wd ((s.drop 4).take (lng k)) 0 = typ k
        · by_cases h3 : wd (s.drop (4 + lng k)) 0 = knd h
          · by_cases h4 : wd s 0 < 2 ^ h
            · exact absurd ⟨hl, hf, h1, h2, h3, h4⟩ (hn k h)
            · exact partsIn_C sv s k h w' hs' hf.1 hf.2.1 h1 h2 h3 (by omega)
          · exact partsIn_B sv s k h w' hs' hf.1 hf.2.1 h1 h2 h3
        · exact partsIn_A sv s k h w' hs' hf.1 hf.2.1 h1 h2
      · exact partsIn_len sv s k h w' hs' hf.1 hf.2.1 h1
    · exact verT_badkey pv tv sv w (fun w' hb => keyIn_no pv p w' ((hp.below hb).more hb.size) hl (fun k h hh => hf ⟨k, h, hh⟩))
  · exact verT_badkey pv tv sv w (fun w' hb => keyIn_len pv p w' ((hp.below hb).more hb.size) hl)
theorem verT_yes (p s text : List UInt8) (k h : Nat) (pv tv sv : Value) (w : World) (hp : Rd w.heap.size w pv p) (ht : Rd w.heap.size w tv text) (htl : text.length ≤ 100000) (hs : Rd w.heap.size w sv s) (hv : VFit p s k h) :
    Calls Tryz.prog 9 #[pv, tv, sv] w (One (.int .i64 (if lroot ((p.drop 8).take 16) ((s.drop 4).take (lng k)) text ((s.drop (4 + lng k)).drop 4) k h (wd s 0) = p.drop 24 then 0 else 16)) w) := by
  obtain ⟨hl, hf, h1, h2, h3, h4⟩ := hv
  have hL : 4 ≤ lng k := by unfold lng; omega
  have hle : llng k h = 4 + lng k + 4 + h * 32 := rfl
  refine verT_good k h ((p.drop 8).take 16) (p.drop 24) pv tv sv w (by rw [List.length_take, List.length_drop, hl]; omega) (by rw [List.length_drop, hl]) hf.1 hf.2.1 (fun w' hb => keyIn_yes pv p k h w' ((hp.below hb).more hb.size) hl hf) (wd s 0) _ _ text h4 ht htl ⟨hf.1, by rw [wd_take _ 4 (by omega), h2], by rw [List.length_take, List.length_drop]; omega⟩ (by rw [List.length_drop, List.length_drop]; omega) (fun w' hb => ?_)
  refine (partsIn_yes sv s k h w' ((hs.below hb).more hb.size) hf.1 hf.2.1 h1 h2 h3 h4).mono ?_
  rintro e w'' ⟨o, t, rfl, hrd, hb2⟩
  obtain ⟨r1, r2⟩ := hrd w.heap.size w hs
  exact ⟨o, t, rfl, r1, r2, hb2⟩

theorem lpub_parts (I seed : List UInt8) (k h : Nat) (hI : I.length = 16) (hk : Wd k) (hh : Ht h) : wd (lpub I seed k h) 0 = knd h ∧ wd ((lpub I seed k h).drop 4) 0 = typ k ∧ ((lpub I seed k h).drop 8).take 16 = I ∧ (lpub I seed k h).drop 24 = knt I seed k (2 ^ h) h 1 := by
  have e : lpub I seed k h = be 4 (knd h) ++ (be 4 (typ k) ++ (I ++ knt I seed k (2 ^ h) h 1)) := by simp [lpub, List.append_assoc]
  have e4 : (lpub I seed k h).drop 4 = be 4 (typ k) ++ (I ++ knt I seed k (2 ^ h) h 1) := by
    rw [e, List.drop_append, List.drop_of_length_le (by rw [be_length]; omega), be_length]; rfl
  have e8 : (lpub I seed k h).drop 8 = I ++ knt I seed k (2 ^ h) h 1 := by
    rw [show 8 = 4 + 4 from rfl, ← List.drop_drop, e4, List.drop_append, List.drop_of_length_le (by rw [be_length]; omega), be_length]; rfl
  refine ⟨by rw [e]; exact wd_be _ _ (knd_lt hh), by rw [e4]; exact wd_be _ _ (typ_lt hk), ?_, ?_⟩
  · rw [e8, List.take_append_of_le_length (by omega), List.take_of_length_le (by omega)]
  · rw [show 24 = 8 + 16 from rfl, ← List.drop_drop, e8, List.drop_append, List.drop_of_length_le (by omega), hI]; rfl
theorem lsig_parts (I seed text : List UInt8) (k h q : Nat) (hk : Wd k) (hh : Ht h) (hq : q < 4294967296) : wd (lsig I seed text k h q) 0 = q ∧ ((lsig I seed text k h q).drop 4).take (lng k) = sigL (pre20 I q) seed text k ∧ wd (((lsig I seed text k h q).drop 4).take (lng k)) 0 = typ k ∧
    wd ((lsig I seed text k h q).drop (4 + lng k)) 0 = knd h ∧ ((lsig I seed text k h q).drop (4 + lng k)).drop 4 = sbl I seed k (2 ^ h) 0 h (2 ^ h + q) := by
  have hl := sigL_length (pre20 I q) seed text k
  have e : lsig I seed text k h q = be 4 q ++ (sigL (pre20 I q) seed text k ++ (be 4 (knd h) ++ sbl I seed k (2 ^ h) 0 h (2 ^ h + q))) := by simp [lsig, List.append_assoc]
  have e4 : (lsig I seed text k h q).drop 4 = sigL (pre20 I q) seed text k ++ (be 4 (knd h) ++ sbl I seed k (2 ^ h) 0 h (2 ^ h + q)) := by
    rw [e, List.drop_append, List.drop_of_length_le (by rw [be_length]; omega), be_length]; rfl
  have et : ((lsig I seed text k h q).drop 4).take (lng k) = sigL (pre20 I q) seed text k := by
    rw [e4, List.take_append_of_le_length (by omega), List.take_of_length_le (by omega)]
  have eb : (lsig I seed text k h q).drop (4 + lng k) = be 4 (knd h) ++ sbl I seed k (2 ^ h) 0 h (2 ^ h + q) := by
    rw [← List.drop_drop, e4, List.drop_append, List.drop_of_length_le (by omega), hl, Nat.sub_self]; rfl
  refine ⟨by rw [e]; exact wd_be _ _ hq, et, ?_, by rw [eb]; exact wd_be _ _ (knd_lt hh), ?_⟩
  · rw [et]
    unfold sigL
    rw [List.append_assoc]
    exact wd_be _ _ (typ_lt hk)
  · rw [eb, List.drop_append, List.drop_of_length_le (by rw [be_length]; omega), be_length]; rfl
/-- What a tree signs has the form that its public key asks for. -/
theorem right_fits (I seed text : List UInt8) (k h q : Nat) (hI : I.length = 16) (hk : Wd k) (hh : Ht h) (hq : q < 2 ^ h) : VFit (lpub I seed k h) (lsig I seed text k h q) k h := by
  have hp : 2 ^ h ≤ 32 := by rcases hh with rfl | rfl | rfl | rfl | rfl <;> decide
  obtain ⟨p1, p2, _, _⟩ := lpub_parts I seed k h hI hk hh
  obtain ⟨s1, _, s3, s4, _⟩ := lsig_parts I seed text k h q hk hh (by omega)
  exact ⟨lpub_length I seed k h hI, ⟨hk, hh, p1.symm, p2.symm⟩, lsig_length _ _ _ _ _ _, s3, s4, by rw [s1]; exact hq⟩
/-- Verify of what a tree signs, and of a text. -/
theorem verT_sig (I seed text text2 : List UInt8) (k h q : Nat) (pv tv sv : Value) (w : World) (hI : I.length = 16) (hk : Wd k) (hh : Ht h) (hq : q < 2 ^ h) (hp : Rd w.heap.size w pv (lpub I seed k h)) (ht : Rd w.heap.size w tv text2) (htl : text2.length ≤ 100000) (hs : Rd w.heap.size w sv (lsig I seed text k h q)) :
    Calls Tryz.prog 9 #[pv, tv, sv] w (One (.int .i64 (if lroot I (sigL (pre20 I q) seed text k) text2 (sbl I seed k (2 ^ h) 0 h (2 ^ h + q)) k h q = knt I seed k (2 ^ h) h 1 then 0 else 16)) w) := by
  have hp2 : 2 ^ h ≤ 32 := by rcases hh with rfl | rfl | rfl | rfl | rfl <;> decide
  obtain ⟨p1, p2, p3, p4⟩ := lpub_parts I seed k h hI hk hh
  obtain ⟨s1, s2, s3, s4, s5⟩ := lsig_parts I seed text k h q hk hh (by omega)
  have := verT_yes (lpub I seed k h) (lsig I seed text k h q) text2 k h pv tv sv w hp ht htl hs (right_fits I seed text k h q hI hk hh hq)
  rw [p3, p4, s1, s2, s5] at this
  exact this
theorem verT_right (I seed text : List UInt8) (k h q : Nat) (pv tv sv : Value) (w : World) (hI : I.length = 16) (hk : Wd k) (hh : Ht h) (hq : q < 2 ^ h) (hp : Rd w.heap.size w pv (lpub I seed k h)) (ht : Rd w.heap.size w tv text) (htl : text.length ≤ 100000) (hs : Rd w.heap.size w sv (lsig I seed text k h q)) :
    Calls Tryz.prog 9 #[pv, tv, sv] w (One (.int .i64 0) w) := by
  have := verT_sig I seed text text k h q pv tv sv w hI hk hh hq hp ht htl hs
  rw [lroot_right I seed text k h q hq, if_pos rfl] at this
  exact this
theorem verT_b (pv tv sv : Value) (w : World) (hp : Rd w.heap.size w pv (lpub Z16 Z32 1 1)) (ht : Rd w.heap.size w tv [98]) (hs : Rd w.heap.size w sv (lsig Z16 Z32 [97] 1 1 1)) : Calls Tryz.prog 9 #[pv, tv, sv] w (One (.int .i64 16) w) := by
  have := verT_sig Z16 Z32 [97] [98] 1 1 1 pv tv sv w rfl (.inl rfl) (.inl rfl) (by decide) hp ht (by decide) hs
  rw [if_neg not_b] at this
  exact this
end Go.Proofs.YtllncnnigjgadaaGreat

namespace Go.Proofs.YtllncnnigjgadaaGreat
open Go.RowKit

theorem ziTree : (Tryz.prog.info? 32).map (·.zero) = some (some (.agg (tcs Z16 Z32 0 0).toArray)) := by kernel_rfl
theorem Rd.oneF (e : TypeId) (w : World) (b : UInt8) (fr : Nat × Nat) : Rd (w.heap.size + 1) (w.alloc (.cells #[.int .u8 (b.toNat : Int)] e fr)) (.slice (some ⟨w.heap.size, 0, none⟩) 1 1) [b] := by
  refine ⟨some ⟨w.heap.size, 0, none⟩, 1, rfl, Nat.le_refl _, by unfold maxLen; omega, fun h => (by cases h), fun a ha => ?_⟩
  cases ha
  refine ⟨fun _ => by show w.heap.size < w.heap.size + 1; omega, fun j hj => ?_⟩
  have hj0 : j = 0 := by simp at hj; omega
  subst hj0
  rw [Addr.add_mid, World.cell?_alloc_mark]
  rfl
theorem sTree1 : (Tryz.prog.info? 32).map (·.size) = some (tcs Z16 Z32 1 1).length := by rw [tcs_length Z16 Z32 1 1 rfl rfl]; exact sTree

set_option maxRecDepth 100000 in
set_option maxHeartbeats 2000000 in
theorem alive5_any (w : World) : Calls Tryz.prog 6 #[] w (One (.bool true) w) := by
  obtain ⟨dT, huT, hdT⟩ := rowTree
  have HU := Lib.hid huT
  have HD := Lib.hid hdT
  have HTL := Lib.hid sTree1
  have HTZ : Hid ((tcs Z16 Z32 0 0).length = (tcs Z16 Z32 1 1).length) := by show _ = _; rw [tcs_length Z16 Z32 0 0 rfl rfl, tcs_length Z16 Z32 1 1 rfl rfl]
  obtain ⟨T, hT⟩ : ∃ T, tcs Z16 Z32 1 1 = T := ⟨_, rfl⟩
  have HTE := Lib.hid hT
  rw [hT] at HTL HTZ
  have HON : Hid (T.toArray.all (·.oneCell') = true) := by show _ = _; rw [← hT]; exact tcs_one _ _ _ _
  have HBT : Hid (Tryz.prog.built 32 [(2, .int .i64 1), (3, .int .i64 1)] = some T.toArray) := by show _ = _; rw [← hT]; kernel_rfl
  obtain ⟨P, hP⟩ : ∃ P, lpub Z16 Z32 1 1 = P := ⟨_, rfl⟩
  have hPl : P.length = 56 := by rw [← hP]; exact lpub_length _ _ _ _ rfl
  have HPE := Lib.hid hP
  have HPL := Lib.hid hPl
  obtain ⟨S, hS⟩ : ∃ S, lsig Z16 Z32 [97] 1 1 1 = S := ⟨_, rfl⟩
  have HSE := Lib.hid hS
  clear huT hdT hT hP hPl hS
  go_enter Tryz.func6, Tryz.ntmps6
  go_wp2_with (first | (refine wpList_buildTo rfl 32 _ rfl (some 8) rfl T.toArray (by simp only [List.map_toArray, List.map_cons, List.map_nil]; exact HBT.out) ?_) | (refine wpList_alloc_blk rfl 32 rfl _ ziTree ?_))
  intro w1 a1 a2 a3
  obtain ⟨g1, hg1⟩ : ∃ g, w.heap.size = g := ⟨_, rfl⟩
  rw [hg1] at a1 a2 a3 ⊢
  have A1 := Lib.hid a1
  obtain ⟨t1, ht1⟩ : ∃ t, w1.setRow g1 T.toArray = t := ⟨_, rfl⟩
  have B1 : Hid (Blk t1 g1 T 32) := by rw [← ht1]; exact a1.setRow
  have BB : Hid (Below w.heap.size w t1) := by rw [← ht1, hg1]; exact below_setRow' a3 (Nat.le_refl _) _
  clear a1 a2 a3 hg1
  go_wp2_with (first | (refine wpList_store_blk rfl 32 _ _ rfl g1 T (tcs Z16 Z32 0 0) 32 rfl rfl A1.out HTL.out HTZ.out HON.out ?_; rw [ht1]; clear ht1) | (refine wpList_load_blkU rfl 32 _ rfl g1 rfl T 32 B1.out dT HU.out HD.out HTL.out ?_))
  refine calls_args (args2 := #[.agg (tcs Z16 Z32 ((1 : Nat) : Int) ((1 : Nat) : Int)).toArray]) (by rw [← HTE.out]; rfl) ?_
  refine (pubT_yes Z16 Z32 1 1 _ rfl rfl (.inl rfl) (.inl rfl)).mono ?_
  rintro e w2 ⟨v2, rfl, hown2, hb⟩
  rw [HPE.out] at hown2
  obtain ⟨Ap, cp, hv2, hcp, hmp⟩ := hown2.rd.shape
  subst hv2
  unfold maxLen at hmp
  rw [HPL.out] at hown2 hcp ⊢
  have C1 : Hid (Blk w2 g1 T 32) := B1.out.below hb B1.out.lt
  have CP : Hid (Rd w2.heap.size w2 (.slice Ap 56 cp) P) := hown2.rd
  have CB : Hid (Below w.heap.size w w2) := BB.out.trans (hb.mono BB.out.size)
  clear hb hown2 B1 BB A1
  have hcv := Lib.run_convert_bytes_const (P := Tryz.prog) w2 22 5 #[.int .u8 97] 1 1 Tryz.underlying22 Tryz.underlying5
  go_wp2_with (refine wpList_load_blkU rfl 32 _ rfl g1 rfl T 32 C1.out dT HU.out HD.out HTL.out ?_)
  have ht3 := Rd.oneF 5 w2 97 (1, 2)
  have hb3 : Below w2.heap.size w2 (w2.alloc (.cells #[.int .u8 97] 5 (1, 2))) := (Below.refl _ _).alloc (Nat.le_refl _) _
  have hs3 : (w2.alloc (.cells #[.int .u8 97] 5 (1, 2))).heap.size = w2.heap.size + 1 := by simp
  refine calls_args (args2 := #[.agg (tcs Z16 Z32 ((1 : Nat) : Int) ((1 : Nat) : Int)).toArray, .int .i64 ((1 : Nat) : Int), .slice (some ⟨w2.heap.size, 0, none⟩) 1 1]) (by rw [← HTE.out]; rfl) ?_
  refine (signT_yes Z16 Z32 [97] 1 1 1 _ _ rfl rfl (.inl rfl) (.inl rfl) (by decide) (by rw [hs3]; exact ht3) (by decide)).mono ?_
  rintro e w4 ⟨v4, rfl, hown4, hb⟩
  rw [HSE.out] at hown4
  have hb4 := hb3.trans (hb.mono (by rw [hs3]; omega))
  have D1 : Hid (Blk w4 g1 T 32) := C1.out.below hb4 C1.out.lt
  have DP : Hid (Rd w4.heap.size w4 (.slice Ap 56 cp) P) := (CP.out.below hb4).more hb4.size
  have DS : Hid (Rd w4.heap.size w4 v4 S) := hown4.rd
  have DB : Hid (Below w.heap.size w w4) := CB.out.trans (hb4.mono CB.out.size)
  clear hb hb3 hb4 ht3 hs3 hown4 C1 CP CB hcv
  have hcv := Lib.run_convert_bytes_const (P := Tryz.prog) w4 22 5 #[.int .u8 97] 1 1 Tryz.underlying22 Tryz.underlying5
  go_wp2_with (refine wpList_load_blkU rfl 32 _ rfl g1 rfl T 32 D1.out dT HU.out HD.out HTL.out ?_)
  have hb5 : Below w4.heap.size w4 (w4.alloc (.cells #[.int .u8 97] 5 (1, 2))) := (Below.refl _ _).alloc (Nat.le_refl _) _
  refine calls_args (args2 := #[.agg (tcs Z16 Z32 ((1 : Nat) : Int) ((1 : Nat) : Int)).toArray, .int .i64 2, .slice (some ⟨w4.heap.size, 0, none⟩) 1 1]) (by rw [← HTE.out]; rfl) ?_
  refine (signT_spent Z16 Z32 1 1 2 _ _ rfl rfl (.inl rfl) (.inl rfl) (.inr (by decide))).mono ?_
  rintro e w6 ⟨rfl, hb⟩
  have hb6 := hb5.trans (hb.mono hb5.size)
  have EP : Hid (Rd w6.heap.size w6 (.slice Ap 56 cp) P) := (DP.out.below hb6).more hb6.size
  have ES : Hid (Rd w6.heap.size w6 v4 S) := (DS.out.below hb6).more hb6.size
  have EB : Hid (Below w.heap.size w w6) := DB.out.trans (hb6.mono DB.out.size)
  clear hb hb5 hb6 D1 DP DS DB hcv
  have hcv := Lib.run_convert_bytes_const (P := Tryz.prog) w6 22 5 #[.int .u8 97] 1 1 Tryz.underlying22 Tryz.underlying5
  go_wp2_with fail
  have ht7 := Rd.oneF 5 w6 97 (1, 2)
  have hb7 : Below w6.heap.size w6 (w6.alloc (.cells #[.int .u8 97] 5 (1, 2))) := (Below.refl _ _).alloc (Nat.le_refl _) _
  have hs7 : (w6.alloc (.cells #[.int .u8 97] 5 (1, 2))).heap.size = w6.heap.size + 1 := by simp
  refine (verT_right Z16 Z32 [97] 1 1 1 _ _ _ _ rfl (.inl rfl) (.inl rfl) (by decide) (by rw [HPE.out]; exact (EP.out.below hb7).more hb7.size) (by rw [hs7]; exact ht7) (by decide) (by rw [HSE.out]; exact (ES.out.below hb7).more hb7.size)).mono ?_
  rintro e w8 ⟨rfl, hb⟩
  have hb8 := hb7.trans (hb.mono hb7.size)
  have FP : Hid (Rd w8.heap.size w8 (.slice Ap 56 cp) P) := (EP.out.below hb8).more hb8.size
  have FS : Hid (Rd w8.heap.size w8 v4 S) := (ES.out.below hb8).more hb8.size
  have FB : Hid (Below w.heap.size w w8) := EB.out.trans (hb8.mono EB.out.size)
  clear hb hb7 hb8 ht7 hs7 EP ES EB hcv
  have hcv := Lib.run_convert_bytes_const (P := Tryz.prog) w8 22 5 #[.int .u8 98] 1 1 Tryz.underlying22 Tryz.underlying5
  go_wp2_with fail
  have ht9 := Rd.oneF 5 w8 98 (1, 2)
  have hb9 : Below w8.heap.size w8 (w8.alloc (.cells #[.int .u8 98] 5 (1, 2))) := (Below.refl _ _).alloc (Nat.le_refl _) _
  have hs9 : (w8.alloc (.cells #[.int .u8 98] 5 (1, 2))).heap.size = w8.heap.size + 1 := by simp
  refine (verT_b _ _ _ _ (by rw [HPE.out]; exact (FP.out.below hb9).more hb9.size) (by rw [hs9]; exact ht9) (by rw [HSE.out]; exact (FS.out.below hb9).more hb9.size)).mono ?_
  rintro e w10 ⟨rfl, hb⟩
  have GB : Hid (Below w.heap.size w w10) := FB.out.trans ((hb9.trans (hb.mono hb9.size)).mono FB.out.size)
  clear hb hb9 ht9 hs9 FP FS FB
  go_wp2
  go_ret
  exact ⟨rfl, GB.out⟩

end Go.Proofs.YtllncnnigjgadaaGreat

/-
  The document's own block on a state, cut into declarations: each region of the rounds.
-/
import Derived.Test.YtnemkefmlffigaaR2a
namespace Go.Proofs.Ytnemkefmlffigaa
open Go.RowKit

def pickR (n : Nat) : Code → Option Code
  | .region i o d => if i = n then some (.region i o d) else none
  | .seq a b => match pickR n a with
    | some c => some c
    | none => pickR n b
  | .loop c => pickR n c
  | .block _ c => pickR n c
  | .scope c => pickR n c
  | .cond _ a b => match pickR n a with
    | some c => some c
    | none => pickR n b
  | _ => none
noncomputable def reg (n : Nat) : Code := ((Try.f90.body.bind (pickR n)).getD .skip)
theorem rcell {w : World} {s W : List Nat} {q : St} {gw gk gs : Nat} {w' : World} (h : Rows5 w s W q.l gw gk gs w') (j : Nat) (x : Value) (hx : (ws q.l)[j]? = some x) : w'.cell? ⟨gs, j, none⟩ = some x := (h.2.2.2.2.1.cell j).trans hx

set_option maxHeartbeats 4000000 in
set_option maxRecDepth 100000 in
theorem L9 (w : World) (s W : List Nat) (q : St) (gw gk gs : Nat) (w0 : World) (R : Hid (Rows5 w s W q.l gw gk gs w0)) {Q : Exit → Act → World → Prop} {x0 x1 x2 x3 x4 x5 x6 x7 x8 x10 x11 x12 x13 x14 x15 x16 x17 x18 x19 x20 x21 x22 x23 x24 x25 x26 x27 x28 x29 x30 x31 x32 x33 x34 x35 x36 x37 x38 x39 x40 x41 x42 x43 x44 x45 x46 x47 x48 x49 x50 x51 x52 x53 x54 x55 x56 x57 x58 x59 x60 x61 x62 x63 x64 x65 x66 x67 x68 x69 x70 x71 x72 x73 x74 x75 x76 x77 x78 x79 x80 x81 x82 x83 x84 x85 x86 x87 x88 x89 x90 x91 x92 x93 x94 x95 x96 x97 x98 x99 x100 x101 x102 x103 x104 x105 x106 x107 x108 x109 x110 x111 x112 x113 x114 x115 x116 x117 x118 x119 x120 x121 x122 x123 x124 x125 x126 x127 x128 : Value} (hK : ∀ (w1 : World) (y34 y35 y36 y37 y38 y39 : Value), Hid (Rows5 w s W q.l gw gk gs w1) → Q .normal ⟨#[x0, x1, x2, x3, x4, x5, x6, x7, x8, .pointer (some ⟨gs, 0, none⟩), x10, .int .u32 ((q.a : Nat) : Int), .int .u32 ((q.e : Nat) : Int), .int .u32 ((q.g : Nat) : Int), x14, x15, x16, x17, x18, x19, x20, x21, x22, x23, x24, x25, x26, x27, x28, x29, x30, x31, x32, x33, y34, y35, y36, y37, y38, y39, x40, x41, x42, x43, x44, x45, x46, x47, x48, x49, x50, x51, x52, x53, x54, x55, x56, x57, x58, x59, x60, x61, x62, x63, x64, x65, x66, x67, x68, x69, x70, x71, x72, x73, x74, x75, x76, x77, x78, x79, x80, x81, x82, x83, x84, x85, x86, x87, x88, x89, x90, x91, x92, x93, x94, x95, x96, x97, x98, x99, x100, x101, x102, x103, x104, x105, x106, x107, x108, x109, x110, x111, x112, x113, x114, x115, x116, x117, x118, x119, x120, x121, x122, x123, x124, x125, x126, x127, x128], []⟩ w1) :
    Code.wp Try.prog (reg 9) Q ⟨#[x0, x1, x2, x3, x4, x5, x6, x7, x8, .pointer (some ⟨gs, 0, none⟩), x10, x11, x12, x13, x14, x15, x16, x17, x18, x19, x20, x21, x22, x23, x24, x25, x26, x27, x28, x29, x30, x31, x32, x33, x34, x35, x36, x37, x38, x39, x40, x41, x42, x43, x44, x45, x46, x47, x48, x49, x50, x51, x52, x53, x54, x55, x56, x57, x58, x59, x60, x61, x62, x63, x64, x65, x66, x67, x68, x69, x70, x71, x72, x73, x74, x75, x76, x77, x78, x79, x80, x81, x82, x83, x84, x85, x86, x87, x88, x89, x90, x91, x92, x93, x94, x95, x96, x97, x98, x99, x100, x101, x102, x103, x104, x105, x106, x107, x108, x109, x110, x111, x112, x113, x114, x115, x116, x117, x118, x119, x120, x121, x122, x123, x124, x125, x126, x127, x128], []⟩ w0 := by
  have HK := Lib.hid hK
  clear hK
  conv => arg 2; whnf
  have c0 := rcell R.out 0 (.int .u32 (q.a : Int)) rfl
  have c4 := rcell R.out 4 (.int .u32 (q.e : Int)) rfl
  have c6 := rcell R.out 6 (.int .u32 (q.g : Int)) rfl
  go_wp2
  go_still (by kernel_rfl)
  exact HK.out _ _ _ _ _ _ _ R.out.drew


set_option maxHeartbeats 4000000 in
set_option maxRecDepth 100000 in
theorem L10 (w : World) (s W : List Nat) (q : St) (gw gk gs : Nat) (w0 : World) (R : Hid (Rows5 w s W q.l gw gk gs w0)) (o : q.e < 4294967296) {Q : Exit → Act → World → Prop} {x0 x1 x2 x3 x4 x5 x6 x7 x8 x9 x10 x11 x13 x14 x15 x16 x17 x18 x19 x20 x21 x22 x23 x24 x25 x26 x27 x28 x29 x30 x31 x32 x33 x34 x35 x36 x37 x38 x39 x40 x41 x42 x43 x44 x45 x46 x47 x48 x49 x50 x51 x52 x53 x54 x55 x56 x57 x58 x59 x60 x61 x62 x63 x64 x65 x66 x67 x68 x69 x70 x71 x72 x73 x74 x75 x76 x77 x78 x79 x80 x81 x82 x83 x84 x85 x86 x87 x88 x89 x90 x91 x92 x93 x94 x95 x96 x97 x98 x99 x100 x101 x102 x103 x104 x105 x106 x107 x108 x109 x110 x111 x112 x113 x114 x115 x116 x117 x118 x119 x120 x121 x122 x123 x124 x125 x126 x127 x128 : Value} (hK : ∀ (w1 : World) (y40 y41 y42 y43 y44 y45 y46 y47 : Value), Hid (Rows5 w s W q.l gw gk gs w1) → Q .normal ⟨#[x0, x1, x2, x3, x4, x5, x6, x7, x8, x9, x10, x11, .int .u32 ((q.e : Nat) : Int), x13, .int .u32 ((bg1 q.e : Nat) : Int), x15, x16, x17, x18, x19, x20, x21, x22, x23, x24, x25, x26, x27, x28, x29, x30, x31, x32, x33, x34, x35, x36, x37, x38, x39, y40, y41, y42, y43, y44, y45, y46, y47, x48, x49, x50, x51, x52, x53, x54, x55, x56, x57, x58, x59, x60, x61, x62, x63, x64, x65, x66, x67, x68, x69, x70, x71, x72, x73, x74, x75, x76, x77, x78, x79, x80, x81, x82, x83, x84, x85, x86, x87, x88, x89, x90, x91, x92, x93, x94, x95, x96, x97, x98, x99, x100, x101, x102, x103, x104, x105, x106, x107, x108, x109, x110, x111, x112, x113, x114, x115, x116, x117, x118, x119, x120, x121, x122, x123, x124, x125, x126, x127, x128], []⟩ w1) :
    Code.wp Try.prog (reg 10) Q ⟨#[x0, x1, x2, x3, x4, x5, x6, x7, x8, x9, x10, x11, .int .u32 ((q.e : Nat) : Int), x13, x14, x15, x16, x17, x18, x19, x20, x21, x22, x23, x24, x25, x26, x27, x28, x29, x30, x31, x32, x33, x34, x35, x36, x37, x38, x39, x40, x41, x42, x43, x44, x45, x46, x47, x48, x49, x50, x51, x52, x53, x54, x55, x56, x57, x58, x59, x60, x61, x62, x63, x64, x65, x66, x67, x68, x69, x70, x71, x72, x73, x74, x75, x76, x77, x78, x79, x80, x81, x82, x83, x84, x85, x86, x87, x88, x89, x90, x91, x92, x93, x94, x95, x96, x97, x98, x99, x100, x101, x102, x103, x104, x105, x106, x107, x108, x109, x110, x111, x112, x113, x114, x115, x116, x117, x118, x119, x120, x121, x122, x123, x124, x125, x126, x127, x128], []⟩ w0 := by
  have HK := Lib.hid hK
  clear hK
  conv => arg 2; whnf
  go_wp2_with fail
  refine (turned_keep (Rows5 w s W q.l gw gk gs) q.e 6 _ _ rfl o (by omega) (by omega) R.out.drewN).mono ?_
  rintro e v0 ⟨rfl, hk⟩
  have R0 := Lib.hid hk
  clear hk R
  go_wp2_with fail
  refine (turned_keep (Rows5 w s W q.l gw gk gs) q.e 11 _ _ rfl o (by omega) (by omega) R0.out.drewN).mono ?_
  rintro e v1 ⟨rfl, hk⟩
  have R1 := Lib.hid hk
  clear hk R0
  go_wp2_with fail
  refine (turned_keep (Rows5 w s W q.l gw gk gs) q.e 25 _ _ rfl o (by omega) (by omega) R1.out.drewN).mono ?_
  rintro e v2 ⟨rfl, hk⟩
  have R2 := Lib.hid hk
  clear hk R1
  have eb : bits .xor .u32 (bits .xor .u32 ((rotr q.e 6 : Nat) : Int) ((rotr q.e 11 : Nat) : Int)) ((rotr q.e 25 : Nat) : Int) = ((bg1 q.e : Nat) : Int) := bg_int _ _ _ (rotr_lt _ _ o) (rotr_lt _ _ o) (rotr_lt _ _ o)
  go_wp2
  exact HK.out _ _ _ _ _ _ _ _ _ R2


set_option maxHeartbeats 4000000 in
set_option maxRecDepth 100000 in
theorem L12 (w : World) (s W : List Nat) (q : St) (gw gk gs : Nat) (w0 : World) (R : Hid (Rows5 w s W q.l gw gk gs w0)) (o : q.a < 4294967296) {Q : Exit → Act → World → Prop} {x0 x1 x2 x3 x4 x5 x6 x7 x8 x9 x10 x12 x13 x14 x15 x16 x17 x18 x19 x20 x21 x22 x23 x24 x25 x26 x27 x28 x29 x30 x31 x32 x33 x34 x35 x36 x37 x38 x39 x40 x41 x42 x43 x44 x45 x46 x47 x48 x49 x50 x51 x52 x53 x54 x55 x56 x57 x58 x59 x60 x61 x62 x63 x64 x65 x66 x67 x68 x69 x70 x71 x72 x73 x74 x75 x76 x77 x78 x79 x80 x81 x82 x83 x84 x85 x86 x87 x88 x89 x90 x91 x92 x93 x94 x95 x96 x97 x98 x99 x100 x101 x102 x103 x104 x105 x106 x107 x108 x109 x110 x111 x112 x113 x114 x115 x116 x117 x118 x119 x120 x121 x122 x123 x124 x125 x126 x127 x128 : Value} (hK : ∀ (w1 : World) (y70 y71 y72 y73 y74 y75 y76 y77 : Value), Hid (Rows5 w s W q.l gw gk gs w1) → Q .normal ⟨#[x0, x1, x2, x3, x4, x5, x6, x7, x8, x9, x10, .int .u32 ((q.a : Nat) : Int), x12, x13, x14, x15, .int .u32 ((bg0 q.a : Nat) : Int), x17, x18, x19, x20, x21, x22, x23, x24, x25, x26, x27, x28, x29, x30, x31, x32, x33, x34, x35, x36, x37, x38, x39, x40, x41, x42, x43, x44, x45, x46, x47, x48, x49, x50, x51, x52, x53, x54, x55, x56, x57, x58, x59, x60, x61, x62, x63, x64, x65, x66, x67, x68, x69, y70, y71, y72, y73, y74, y75, y76, y77, x78, x79, x80, x81, x82, x83, x84, x85, x86, x87, x88, x89, x90, x91, x92, x93, x94, x95, x96, x97, x98, x99, x100, x101, x102, x103, x104, x105, x106, x107, x108, x109, x110, x111, x112, x113, x114, x115, x116, x117, x118, x119, x120, x121, x122, x123, x124, x125, x126, x127, x128], []⟩ w1) :
    Code.wp Try.prog (reg 12) Q ⟨#[x0, x1, x2, x3, x4, x5, x6, x7, x8, x9, x10, .int .u32 ((q.a : Nat) : Int), x12, x13, x14, x15, x16, x17, x18, x19, x20, x21, x22, x23, x24, x25, x26, x27, x28, x29, x30, x31, x32, x33, x34, x35, x36, x37, x38, x39, x40, x41, x42, x43, x44, x45, x46, x47, x48, x49, x50, x51, x52, x53, x54, x55, x56, x57, x58, x59, x60, x61, x62, x63, x64, x65, x66, x67, x68, x69, x70, x71, x72, x73, x74, x75, x76, x77, x78, x79, x80, x81, x82, x83, x84, x85, x86, x87, x88, x89, x90, x91, x92, x93, x94, x95, x96, x97, x98, x99, x100, x101, x102, x103, x104, x105, x106, x107, x108, x109, x110, x111, x112, x113, x114, x115, x116, x117, x118, x119, x120, x121, x122, x123, x124, x125, x126, x127, x128], []⟩ w0 := by
  have HK := Lib.hid hK
  clear hK
  conv => arg 2; whnf
  go_wp2_with fail
  refine (turned_keep (Rows5 w s W q.l gw gk gs) q.a 2 _ _ rfl o (by omega) (by omega) R.out.drewN).mono ?_
  rintro e v0 ⟨rfl, hk⟩
  have R0 := Lib.hid hk
  clear hk R
  go_wp2_with fail
  refine (turned_keep (Rows5 w s W q.l gw gk gs) q.a 13 _ _ rfl o (by omega) (by omega) R0.out.drewN).mono ?_
  rintro e v1 ⟨rfl, hk⟩
  have R1 := Lib.hid hk
  clear hk R0
  go_wp2_with fail
  refine (turned_keep (Rows5 w s W q.l gw gk gs) q.a 22 _ _ rfl o (by omega) (by omega) R1.out.drewN).mono ?_
  rintro e v2 ⟨rfl, hk⟩
  have R2 := Lib.hid hk
  clear hk R1
  have eb : bits .xor .u32 (bits .xor .u32 ((rotr q.a 2 : Nat) : Int) ((rotr q.a 13 : Nat) : Int)) ((rotr q.a 22 : Nat) : Int) = ((bg0 q.a : Nat) : Int) := bg_int _ _ _ (rotr_lt _ _ o) (rotr_lt _ _ o) (rotr_lt _ _ o)
  go_wp2
  exact HK.out _ _ _ _ _ _ _ _ _ R2


set_option maxHeartbeats 4000000 in
set_option maxRecDepth 100000 in
theorem L11 (w : World) (s W : List Nat) (q : St) (gw gk gs : Nat) (w0 : World) (R : Hid (Rows5 w s W q.l gw gk gs w0)) (t kt wt : Nat) (ht : t < 64) (CK : Hid ((ws kw)[t]? = some (.int .u32 (kt : Int)))) (CW : Hid ((ws W)[t]? = some (.int .u32 (wt : Int)))) (o5 : q.e < 4294967296) (o6 : q.f < 4294967296) (o7 : q.g < 4294967296) {Q : Exit → Act → World → Prop} {x0 x1 x2 x3 x4 x5 x7 x11 x15 x16 x17 x18 x19 x20 x21 x22 x23 x24 x25 x26 x27 x28 x29 x30 x31 x32 x33 x34 x35 x36 x37 x38 x39 x40 x41 x42 x43 x44 x45 x46 x47 x48 x49 x50 x51 x52 x53 x54 x55 x56 x57 x58 x59 x60 x61 x62 x63 x64 x65 x66 x67 x68 x69 x70 x71 x72 x73 x74 x75 x76 x77 x78 x79 x80 x81 x82 x83 x84 x85 x86 x87 x88 x89 x90 x91 x92 x93 x94 x95 x96 x97 x98 x99 x100 x101 x102 x103 x104 x105 x106 x107 x108 x109 x110 x111 x112 x113 x114 x115 x116 x117 x118 x119 x120 x121 x122 x123 x124 x125 x126 x127 x128 : Value} (hK : ∀ (w1 : World) (y48 y49 y50 y51 y52 y53 y54 y55 y56 y57 y58 y59 y60 y61 y62 y63 y64 y65 y66 y67 y68 y69 : Value), Hid (Rows5 w s W q.l gw gk gs w1) → Q .normal ⟨#[x0, x1, x2, x3, x4, x5, .pointer (some ⟨gw, 0, none⟩), x7, .pointer (some ⟨gk, 0, none⟩), .pointer (some ⟨gs, 0, none⟩), .int .i64 (t : Int), x11, .int .u32 ((q.e : Nat) : Int), .int .u32 ((q.g : Nat) : Int), .int .u32 ((bg1 q.e : Nat) : Int), .int .u32 ((t1 q kt wt : Nat) : Int), x16, x17, x18, x19, x20, x21, x22, x23, x24, x25, x26, x27, x28, x29, x30, x31, x32, x33, x34, x35, x36, x37, x38, x39, x40, x41, x42, x43, x44, x45, x46, x47, y48, y49, y50, y51, y52, y53, y54, y55, y56, y57, y58, y59, y60, y61, y62, y63, y64, y65, y66, y67, y68, y69, x70, x71, x72, x73, x74, x75, x76, x77, x78, x79, x80, x81, x82, x83, x84, x85, x86, x87, x88, x89, x90, x91, x92, x93, x94, x95, x96, x97, x98, x99, x100, x101, x102, x103, x104, x105, x106, x107, x108, x109, x110, x111, x112, x113, x114, x115, x116, x117, x118, x119, x120, x121, x122, x123, x124, x125, x126, x127, x128], []⟩ w1) :
    Code.wp Try.prog (reg 11) Q ⟨#[x0, x1, x2, x3, x4, x5, .pointer (some ⟨gw, 0, none⟩), x7, .pointer (some ⟨gk, 0, none⟩), .pointer (some ⟨gs, 0, none⟩), .int .i64 (t : Int), x11, .int .u32 ((q.e : Nat) : Int), .int .u32 ((q.g : Nat) : Int), .int .u32 ((bg1 q.e : Nat) : Int), x15, x16, x17, x18, x19, x20, x21, x22, x23, x24, x25, x26, x27, x28, x29, x30, x31, x32, x33, x34, x35, x36, x37, x38, x39, x40, x41, x42, x43, x44, x45, x46, x47, x48, x49, x50, x51, x52, x53, x54, x55, x56, x57, x58, x59, x60, x61, x62, x63, x64, x65, x66, x67, x68, x69, x70, x71, x72, x73, x74, x75, x76, x77, x78, x79, x80, x81, x82, x83, x84, x85, x86, x87, x88, x89, x90, x91, x92, x93, x94, x95, x96, x97, x98, x99, x100, x101, x102, x103, x104, x105, x106, x107, x108, x109, x110, x111, x112, x113, x114, x115, x116, x117, x118, x119, x120, x121, x122, x123, x124, x125, x126, x127, x128], []⟩ w0 := by
  have HK := Lib.hid hK
  clear hK
  conv => arg 2; whnf
  have zt : (t : Int) < 64 := by omega
  have c7 := rcell R.out 7 (.int .u32 (q.h : Int)) rfl
  have c5 := rcell R.out 5 (.int .u32 (q.f : Int)) rfl
  have ck := (R.out.2.2.2.1.cell t).trans CK.out
  have cw := (R.out.2.2.1.cell t).trans CW.out
  have ech := ch_int q.e q.f q.g o5 o6 o7
  obtain ⟨T, hT⟩ : ∃ x, t1 q kt wt = x := ⟨_, rfl⟩
  rw [hT] at HK
  have eT : IntKind.u32.wrap (IntKind.u32.wrap (IntKind.u32.wrap (IntKind.u32.wrap ((q.h : Int) + (bg1 q.e : Int)) + (chs q.e q.f q.g : Int)) + (kt : Int)) + (wt : Int)) = (T : Int) := by
    rw [ad_int, ad_int, ad_int, ad_int, ← hT]; rfl
  clear hT
  go_wp2
  go_still (by kernel_rfl)
  exact HK.out _ _ _ _ _ _ _ _ _ _ _ _ _ _ _ _ _ _ _ _ _ _ _ R.out.drew


set_option maxHeartbeats 4000000 in
set_option maxRecDepth 100000 in
theorem L13 (w : World) (s W : List Nat) (q : St) (gw gk gs : Nat) (w0 : World) (R : Hid (Rows5 w s W q.l gw gk gs w0)) (o1 : q.a < 4294967296) (o2 : q.b < 4294967296) (o3 : q.c < 4294967296) {Q : Exit → Act → World → Prop} {x0 x1 x2 x3 x4 x5 x6 x7 x8 x10 x12 x13 x14 x15 x17 x18 x19 x20 x21 x22 x23 x24 x25 x26 x27 x28 x29 x30 x31 x32 x33 x34 x35 x36 x37 x38 x39 x40 x41 x42 x43 x44 x45 x46 x47 x48 x49 x50 x51 x52 x53 x54 x55 x56 x57 x58 x59 x60 x61 x62 x63 x64 x65 x66 x67 x68 x69 x70 x71 x72 x73 x74 x75 x76 x77 x78 x79 x80 x81 x82 x83 x84 x85 x86 x87 x88 x89 x90 x91 x92 x93 x94 x95 x96 x97 x98 x99 x100 x101 x102 x103 x104 x105 x106 x107 x108 x109 x110 x111 x112 x113 x114 x115 x116 x117 x118 x119 x120 x121 x122 x123 x124 x125 x126 x127 x128 : Value} (hK : ∀ (w1 : World) (y78 y79 y80 y81 y82 y83 y84 y85 y86 y87 y88 y89 y90 y91 y92 y93 y94 : Value), Hid (Rows5 w s W q.l gw gk gs w1) → Q .normal ⟨#[x0, x1, x2, x3, x4, x5, x6, x7, x8, .pointer (some ⟨gs, 0, none⟩), x10, .int .u32 ((q.a : Nat) : Int), x12, x13, x14, x15, .int .u32 ((bg0 q.a : Nat) : Int), .int .u32 ((ad (bg0 q.a) (mjr q.a q.b q.c) : Nat) : Int), x18, x19, x20, x21, x22, x23, x24, x25, x26, x27, x28, x29, x30, x31, x32, x33, x34, x35, x36, x37, x38, x39, x40, x41, x42, x43, x44, x45, x46, x47, x48, x49, x50, x51, x52, x53, x54, x55, x56, x57, x58, x59, x60, x61, x62, x63, x64, x65, x66, x67, x68, x69, x70, x71, x72, x73, x74, x75, x76, x77, y78, y79, y80, y81, y82, y83, y84, y85, y86, y87, y88, y89, y90, y91, y92, y93, y94, x95, x96, x97, x98, x99, x100, x101, x102, x103, x104, x105, x106, x107, x108, x109, x110, x111, x112, x113, x114, x115, x116, x117, x118, x119, x120, x121, x122, x123, x124, x125, x126, x127, x128], []⟩ w1) :
    Code.wp Try.prog (reg 13) Q ⟨#[x0, x1, x2, x3, x4, x5, x6, x7, x8, .pointer (some ⟨gs, 0, none⟩), x10, .int .u32 ((q.a : Nat) : Int), x12, x13, x14, x15, .int .u32 ((bg0 q.a : Nat) : Int), x17, x18, x19, x20, x21, x22, x23, x24, x25, x26, x27, x28, x29, x30, x31, x32, x33, x34, x35, x36, x37, x38, x39, x40, x41, x42, x43, x44, x45, x46, x47, x48, x49, x50, x51, x52, x53, x54, x55, x56, x57, x58, x59, x60, x61, x62, x63, x64, x65, x66, x67, x68, x69, x70, x71, x72, x73, x74, x75, x76, x77, x78, x79, x80, x81, x82, x83, x84, x85, x86, x87, x88, x89, x90, x91, x92, x93, x94, x95, x96, x97, x98, x99, x100, x101, x102, x103, x104, x105, x106, x107, x108, x109, x110, x111, x112, x113, x114, x115, x116, x117, x118, x119, x120, x121, x122, x123, x124, x125, x126, x127, x128], []⟩ w0 := by
  have HK := Lib.hid hK
  clear hK
  conv => arg 2; whnf
  have c1 := rcell R.out 1 (.int .u32 (q.b : Int)) rfl
  have c2 := rcell R.out 2 (.int .u32 (q.c : Int)) rfl
  have emj := mj_int q.a q.b q.c o1 o2 o3
  have e17 : IntKind.u32.wrap ((bg0 q.a : Int) + (mjr q.a q.b q.c : Int)) = ((ad (bg0 q.a) (mjr q.a q.b q.c) : Nat) : Int) := ad_int _ _
  go_wp2
  exact HK.out _ _ _ _ _ _ _ _ _ _ _ _ _ _ _ _ _ _ R


set_option maxHeartbeats 4000000 in
set_option maxRecDepth 100000 in
theorem L14 (w : World) (s W : List Nat) (q : St) (gw gk gs : Nat) (w0 : World) (R : Hid (Rows5 w s W q.l gw gk gs w0)) (kt wt : Nat) (l0 : w.heap.size + 1 < gw) (l1 : gw < gk) (l2 : gk < gs) {Q : Exit → Act → World → Prop} {x0 x1 x2 x3 x4 x5 x6 x7 x8 x10 x11 x12 x13 x14 x16 x18 x19 x20 x21 x22 x23 x24 x25 x26 x27 x28 x29 x30 x31 x32 x33 x34 x35 x36 x37 x38 x39 x40 x41 x42 x43 x44 x45 x46 x47 x48 x49 x50 x51 x52 x53 x54 x55 x56 x57 x58 x59 x60 x61 x62 x63 x64 x65 x66 x67 x68 x69 x70 x71 x72 x73 x74 x75 x76 x77 x78 x79 x80 x81 x82 x83 x84 x85 x86 x87 x88 x89 x90 x91 x92 x93 x94 x95 x96 x97 x98 x99 x100 x101 x102 x103 x104 x105 x106 x107 x108 x109 x110 x111 x112 x113 x114 x115 x116 x117 x118 x119 x120 x121 x122 x123 x124 x125 x126 x127 x128 : Value} (hK : ∀ (w1 : World) (y95 y96 y97 y98 y99 y100 y101 y102 y103 y104 y105 y106 y107 y108 y109 y110 y111 y112 y113 y114 : Value), Hid (Rows5 w s W (rnd q kt wt).l gw gk gs w1) → Q .normal ⟨#[x0, x1, x2, x3, x4, x5, x6, x7, x8, .pointer (some ⟨gs, 0, none⟩), x10, x11, x12, x13, x14, .int .u32 ((t1 q kt wt : Nat) : Int), x16, .int .u32 ((ad (bg0 q.a) (mjr q.a q.b q.c) : Nat) : Int), x18, x19, x20, x21, x22, x23, x24, x25, x26, x27, x28, x29, x30, x31, x32, x33, x34, x35, x36, x37, x38, x39, x40, x41, x42, x43, x44, x45, x46, x47, x48, x49, x50, x51, x52, x53, x54, x55, x56, x57, x58, x59, x60, x61, x62, x63, x64, x65, x66, x67, x68, x69, x70, x71, x72, x73, x74, x75, x76, x77, x78, x79, x80, x81, x82, x83, x84, x85, x86, x87, x88, x89, x90, x91, x92, x93, x94, y95, y96, y97, y98, y99, y100, y101, y102, y103, y104, y105, y106, y107, y108, y109, y110, y111, y112, y113, y114, x115, x116, x117, x118, x119, x120, x121, x122, x123, x124, x125, x126, x127, x128], []⟩ w1) :
    Code.wp Try.prog (reg 14) Q ⟨#[x0, x1, x2, x3, x4, x5, x6, x7, x8, .pointer (some ⟨gs, 0, none⟩), x10, x11, x12, x13, x14, .int .u32 ((t1 q kt wt : Nat) : Int), x16, .int .u32 ((ad (bg0 q.a) (mjr q.a q.b q.c) : Nat) : Int), x18, x19, x20, x21, x22, x23, x24, x25, x26, x27, x28, x29, x30, x31, x32, x33, x34, x35, x36, x37, x38, x39, x40, x41, x42, x43, x44, x45, x46, x47, x48, x49, x50, x51, x52, x53, x54, x55, x56, x57, x58, x59, x60, x61, x62, x63, x64, x65, x66, x67, x68, x69, x70, x71, x72, x73, x74, x75, x76, x77, x78, x79, x80, x81, x82, x83, x84, x85, x86, x87, x88, x89, x90, x91, x92, x93, x94, x95, x96, x97, x98, x99, x100, x101, x102, x103, x104, x105, x106, x107, x108, x109, x110, x111, x112, x113, x114, x115, x116, x117, x118, x119, x120, x121, x122, x123, x124, x125, x126, x127, x128], []⟩ w0 := by
  have HK := Lib.hid hK
  clear hK
  conv => arg 2; whnf
  have c0 := rcell R.out 0 (.int .u32 (q.a : Int)) rfl
  have c1 := rcell R.out 1 (.int .u32 (q.b : Int)) rfl
  have c2 := rcell R.out 2 (.int .u32 (q.c : Int)) rfl
  have c3 := rcell R.out 3 (.int .u32 (q.d : Int)) rfl
  have c4 := rcell R.out 4 (.int .u32 (q.e : Int)) rfl
  have c5 := rcell R.out 5 (.int .u32 (q.f : Int)) rfl
  have c6 := rcell R.out 6 (.int .u32 (q.g : Int)) rfl
  have B4 := Lib.hid R.out.2.2.2.2.1
  obtain ⟨T, hT⟩ : ∃ x, t1 q kt wt = x := ⟨_, rfl⟩
  obtain ⟨U, hU⟩ : ∃ x, ad (bg0 q.a) (mjr q.a q.b q.c) = x := ⟨_, rfl⟩
  have HT := Lib.hid hT
  have HU := Lib.hid hU
  rw [hT, hU] at HK ⊢
  have eA : IntKind.u32.wrap ((T : Int) + (U : Int)) = ((ad T U : Nat) : Int) := ad_int _ _
  have eE : IntKind.u32.wrap ((q.d : Int) + (T : Int)) = ((ad q.d T : Nat) : Int) := ad_int _ _
  clear hT hU
  go_wp2_with (refine wpList_store_blk rfl 121 _ _ rfl gs _ (ws q.l) 121 rfl rfl B4.out s33 rfl (agg8_one _ _ _ _ _ _ _ _ _) ?_)
  refine HK.out _ _ _ _ _ _ _ _ _ _ _ _ _ _ _ _ _ _ _ _ _ ?_
  have h : (ws (rnd q kt wt).l) = [.int .u32 ((ad T U : Nat) : Int), .int .u32 (q.a : Int), .int .u32 (q.b : Int), .int .u32 (q.c : Int), .int .u32 ((ad q.d T : Nat) : Int), .int .u32 (q.e : Int), .int .u32 (q.f : Int), .int .u32 (q.g : Int)] := by rw [← HT.out, ← HU.out]; rfl
  refine ⟨R.out.1.setRowOther (by omega), R.out.2.1.setRowOther (by omega), R.out.2.2.1.setRowOther (by omega), R.out.2.2.2.1.setRowOther (by omega), ?_, below_setRow' R.out.2.2.2.2.2 (by omega) _⟩
  rw [h]
  exact B4.out.setRow


set_option maxHeartbeats 4000000 in
set_option maxRecDepth 100000 in
theorem L18 (w : World) (s W V : List Nat) (gw gk gs : Nat) (w0 : World) (R : Hid (Rows5 w s W V gw gk gs w0)) (i : Nat) (hi : i < 8) (hV : V.length = 8) (hs : s.length = 8) (l0 : w.heap.size + 1 < gw) (l1 : gw < gk) (l2 : gk < gs) {Q : Exit → Act → World → Prop} {x0 x1 x3 x4 x5 x6 x7 x8 x10 x11 x12 x13 x14 x15 x16 x17 x19 x20 x21 x22 x23 x24 x25 x26 x27 x28 x29 x30 x31 x32 x33 x34 x35 x36 x37 x38 x39 x40 x41 x42 x43 x44 x45 x46 x47 x48 x49 x50 x51 x52 x53 x54 x55 x56 x57 x58 x59 x60 x61 x62 x63 x64 x65 x66 x67 x68 x69 x70 x71 x72 x73 x74 x75 x76 x77 x78 x79 x80 x81 x82 x83 x84 x85 x86 x87 x88 x89 x90 x91 x92 x93 x94 x95 x96 x97 x98 x99 x100 x101 x102 x103 x104 x105 x106 x107 x108 x109 x110 x111 x112 x113 x114 x115 x116 x117 x118 x119 x120 x121 x122 x123 x124 x125 x126 x127 x128 : Value} (hK : ∀ (w1 : World) (y119 y120 y121 y122 y123 y124 y125 y126 y127 : Value), Hid (Rows5 w s W (V.set i (ad (V.getD i 0) (s.getD i 0))) gw gk gs w1) → Q .normal ⟨#[x0, x1, .pointer (some ⟨w.heap.size, 0, none⟩), x3, x4, x5, x6, x7, x8, .pointer (some ⟨gs, 0, none⟩), x10, x11, x12, x13, x14, x15, x16, x17, .int .i64 (i : Int), x19, x20, x21, x22, x23, x24, x25, x26, x27, x28, x29, x30, x31, x32, x33, x34, x35, x36, x37, x38, x39, x40, x41, x42, x43, x44, x45, x46, x47, x48, x49, x50, x51, x52, x53, x54, x55, x56, x57, x58, x59, x60, x61, x62, x63, x64, x65, x66, x67, x68, x69, x70, x71, x72, x73, x74, x75, x76, x77, x78, x79, x80, x81, x82, x83, x84, x85, x86, x87, x88, x89, x90, x91, x92, x93, x94, x95, x96, x97, x98, x99, x100, x101, x102, x103, x104, x105, x106, x107, x108, x109, x110, x111, x112, x113, x114, x115, x116, x117, x118, y119, y120, y121, y122, y123, y124, y125, y126, y127, x128], []⟩ w1) :
    Code.wp Try.prog (reg 18) Q ⟨#[x0, x1, .pointer (some ⟨w.heap.size, 0, none⟩), x3, x4, x5, x6, x7, x8, .pointer (some ⟨gs, 0, none⟩), x10, x11, x12, x13, x14, x15, x16, x17, .int .i64 (i : Int), x19, x20, x21, x22, x23, x24, x25, x26, x27, x28, x29, x30, x31, x32, x33, x34, x35, x36, x37, x38, x39, x40, x41, x42, x43, x44, x45, x46, x47, x48, x49, x50, x51, x52, x53, x54, x55, x56, x57, x58, x59, x60, x61, x62, x63, x64, x65, x66, x67, x68, x69, x70, x71, x72, x73, x74, x75, x76, x77, x78, x79, x80, x81, x82, x83, x84, x85, x86, x87, x88, x89, x90, x91, x92, x93, x94, x95, x96, x97, x98, x99, x100, x101, x102, x103, x104, x105, x106, x107, x108, x109, x110, x111, x112, x113, x114, x115, x116, x117, x118, x119, x120, x121, x122, x123, x124, x125, x126, x127, x128], []⟩ w0 := by
  have HK := Lib.hid hK
  clear hK
  conv => arg 2; whnf
  have zi : (i : Int) < 8 := by omega
  have c1 := (R.out.2.2.2.2.1.cell i).trans (ws_cell V i (by omega))
  have c2 := (R.out.1.cell i).trans (ws_cell s i (by omega))
  have hf := R.out.2.2.2.2.1.frozen i
  obtain ⟨X, hX⟩ : ∃ x, V.getD i 0 = x := ⟨_, rfl⟩
  obtain ⟨Y, hY⟩ : ∃ x, s.getD i 0 = x := ⟨_, rfl⟩
  rw [hX] at c1 HK
  rw [hY] at c2 HK
  have eA : IntKind.u32.wrap ((X : Int) + (Y : Int)) = ((ad X Y : Nat) : Int) := ad_int _ _
  clear hX hY
  go_wp2
  go_still_tail 9, (by kernel_rfl)
  go_wp2
  refine HK.out _ _ _ _ _ _ _ _ _ _ ?_
  have e : (ws V).set i (.int .u32 ((ad X Y : Nat) : Int)) = ws (V.set i (ad X Y)) := ws_set V i _
  have h := (R.out.2.2.2.2.1.set i (.int .u32 ((ad X Y : Nat) : Int))).drew
  rw [e] at h
  exact ⟨(R.out.1.setOther _ _ (by simp; omega)).drew, (R.out.2.1.setOther _ _ (by simp; omega)).drew, (R.out.2.2.1.setOther _ _ (by simp; omega)).drew, (R.out.2.2.2.1.setOther _ _ (by simp; omega)).drew, h, (R.out.2.2.2.2.2.setCell (by simp; omega) _).drew⟩


end Go.Proofs.Ytnemkefmlffigaa

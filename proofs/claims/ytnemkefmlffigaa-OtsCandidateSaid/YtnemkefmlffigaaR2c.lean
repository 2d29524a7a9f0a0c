/-
  The document's own block on a state: its two loops.
-/
import Derived.Test.YtnemkefmlffigaaR2b
namespace Go.Proofs.Ytnemkefmlffigaa
open Go.RowKit

set_option maxHeartbeats 4000000 in
set_option maxRecDepth 100000 in
theorem L7T (w0 : World) (t : Nat) (ht : t < 64) {Q : Exit → Act → World → Prop} {x0 x1 x2 x3 x4 x5 x6 x7 x8 x9 x11 x12 x13 x14 x15 x16 x17 x18 x19 x20 x21 x22 x23 x24 x25 x26 x27 x28 x29 x30 x31 x32 x33 x34 x35 x36 x37 x38 x39 x40 x41 x42 x43 x44 x45 x46 x47 x48 x49 x50 x51 x52 x53 x54 x55 x56 x57 x58 x59 x60 x61 x62 x63 x64 x65 x66 x67 x68 x69 x70 x71 x72 x73 x74 x75 x76 x77 x78 x79 x80 x81 x82 x83 x84 x85 x86 x87 x88 x89 x90 x91 x92 x93 x94 x95 x96 x97 x98 x99 x100 x101 x102 x103 x104 x105 x106 x107 x108 x109 x110 x111 x112 x113 x114 x115 x116 x117 x118 x119 x120 x121 x122 x123 x124 x125 x126 x127 x128 : Value} (hK : ∀ (w1 : World) (y30 : Value), w1 = w0 → Q .normal ⟨#[x0, x1, x2, x3, x4, x5, x6, x7, x8, x9, .int .i64 (t : Int), x11, x12, x13, x14, x15, x16, x17, x18, x19, x20, x21, x22, x23, x24, x25, x26, x27, x28, x29, y30, .bool true, x32, x33, x34, x35, x36, x37, x38, x39, x40, x41, x42, x43, x44, x45, x46, x47, x48, x49, x50, x51, x52, x53, x54, x55, x56, x57, x58, x59, x60, x61, x62, x63, x64, x65, x66, x67, x68, x69, x70, x71, x72, x73, x74, x75, x76, x77, x78, x79, x80, x81, x82, x83, x84, x85, x86, x87, x88, x89, x90, x91, x92, x93, x94, x95, x96, x97, x98, x99, x100, x101, x102, x103, x104, x105, x106, x107, x108, x109, x110, x111, x112, x113, x114, x115, x116, x117, x118, x119, x120, x121, x122, x123, x124, x125, x126, x127, x128], []⟩ w1) :
    Code.wp Try.prog (reg 7) Q ⟨#[x0, x1, x2, x3, x4, x5, x6, x7, x8, x9, .int .i64 (t : Int), x11, x12, x13, x14, x15, x16, x17, x18, x19, x20, x21, x22, x23, x24, x25, x26, x27, x28, x29, x30, x31, x32, x33, x34, x35, x36, x37, x38, x39, x40, x41, x42, x43, x44, x45, x46, x47, x48, x49, x50, x51, x52, x53, x54, x55, x56, x57, x58, x59, x60, x61, x62, x63, x64, x65, x66, x67, x68, x69, x70, x71, x72, x73, x74, x75, x76, x77, x78, x79, x80, x81, x82, x83, x84, x85, x86, x87, x88, x89, x90, x91, x92, x93, x94, x95, x96, x97, x98, x99, x100, x101, x102, x103, x104, x105, x106, x107, x108, x109, x110, x111, x112, x113, x114, x115, x116, x117, x118, x119, x120, x121, x122, x123, x124, x125, x126, x127, x128], []⟩ w0 := by
  have HK := Lib.hid hK
  clear hK
  conv => arg 2; whnf
  have zt : (t : Int) < 64 := by omega
  go_wp2
  exact HK.out _ _ rfl

set_option maxHeartbeats 4000000 in
set_option maxRecDepth 100000 in
theorem L7F (w0 : World) {Q : Exit → Act → World → Prop} {x0 x1 x2 x3 x4 x5 x6 x7 x8 x9 x11 x12 x13 x14 x15 x16 x17 x18 x19 x20 x21 x22 x23 x24 x25 x26 x27 x28 x29 x30 x31 x32 x33 x34 x35 x36 x37 x38 x39 x40 x41 x42 x43 x44 x45 x46 x47 x48 x49 x50 x51 x52 x53 x54 x55 x56 x57 x58 x59 x60 x61 x62 x63 x64 x65 x66 x67 x68 x69 x70 x71 x72 x73 x74 x75 x76 x77 x78 x79 x80 x81 x82 x83 x84 x85 x86 x87 x88 x89 x90 x91 x92 x93 x94 x95 x96 x97 x98 x99 x100 x101 x102 x103 x104 x105 x106 x107 x108 x109 x110 x111 x112 x113 x114 x115 x116 x117 x118 x119 x120 x121 x122 x123 x124 x125 x126 x127 x128 : Value} (hK : ∀ (w1 : World) (y30 : Value), w1 = w0 → Q .normal ⟨#[x0, x1, x2, x3, x4, x5, x6, x7, x8, x9, .int .i64 64, x11, x12, x13, x14, x15, x16, x17, x18, x19, x20, x21, x22, x23, x24, x25, x26, x27, x28, x29, y30, .bool false, x32, x33, x34, x35, x36, x37, x38, x39, x40, x41, x42, x43, x44, x45, x46, x47, x48, x49, x50, x51, x52, x53, x54, x55, x56, x57, x58, x59, x60, x61, x62, x63, x64, x65, x66, x67, x68, x69, x70, x71, x72, x73, x74, x75, x76, x77, x78, x79, x80, x81, x82, x83, x84, x85, x86, x87, x88, x89, x90, x91, x92, x93, x94, x95, x96, x97, x98, x99, x100, x101, x102, x103, x104, x105, x106, x107, x108, x109, x110, x111, x112, x113, x114, x115, x116, x117, x118, x119, x120, x121, x122, x123, x124, x125, x126, x127, x128], []⟩ w1) :
    Code.wp Try.prog (reg 7) Q ⟨#[x0, x1, x2, x3, x4, x5, x6, x7, x8, x9, .int .i64 64, x11, x12, x13, x14, x15, x16, x17, x18, x19, x20, x21, x22, x23, x24, x25, x26, x27, x28, x29, x30, x31, x32, x33, x34, x35, x36, x37, x38, x39, x40, x41, x42, x43, x44, x45, x46, x47, x48, x49, x50, x51, x52, x53, x54, x55, x56, x57, x58, x59, x60, x61, x62, x63, x64, x65, x66, x67, x68, x69, x70, x71, x72, x73, x74, x75, x76, x77, x78, x79, x80, x81, x82, x83, x84, x85, x86, x87, x88, x89, x90, x91, x92, x93, x94, x95, x96, x97, x98, x99, x100, x101, x102, x103, x104, x105, x106, x107, x108, x109, x110, x111, x112, x113, x114, x115, x116, x117, x118, x119, x120, x121, x122, x123, x124, x125, x126, x127, x128], []⟩ w0 := by
  have HK := Lib.hid hK
  clear hK
  conv => arg 2; whnf
  go_wp2
  exact HK.out _ _ rfl

set_option maxHeartbeats 4000000 in
set_option maxRecDepth 100000 in
theorem L8 (w0 : World) (t : Nat) (ht : t < 64) {Q : Exit → Act → World → Prop} {x0 x1 x2 x3 x4 x5 x6 x7 x8 x9 x11 x12 x13 x14 x15 x16 x17 x18 x19 x20 x21 x22 x23 x24 x25 x26 x27 x28 x29 x30 x31 x32 x33 x34 x35 x36 x37 x38 x39 x40 x41 x42 x43 x44 x45 x46 x47 x48 x49 x50 x51 x52 x53 x54 x55 x56 x57 x58 x59 x60 x61 x62 x63 x64 x65 x66 x67 x68 x69 x70 x71 x72 x73 x74 x75 x76 x77 x78 x79 x80 x81 x82 x83 x84 x85 x86 x87 x88 x89 x90 x91 x92 x93 x94 x95 x96 x97 x98 x99 x100 x101 x102 x103 x104 x105 x106 x107 x108 x109 x110 x111 x112 x113 x114 x115 x116 x117 x118 x119 x120 x121 x122 x123 x124 x125 x126 x127 x128 : Value} (hK : ∀ (w1 : World) (y32 y33 : Value), w1 = w0 → Q .normal ⟨#[x0, x1, x2, x3, x4, x5, x6, x7, x8, x9, .int .i64 ((t + 1 : Nat) : Int), x11, x12, x13, x14, x15, x16, x17, x18, x19, x20, x21, x22, x23, x24, x25, x26, x27, x28, x29, x30, x31, y32, y33, x34, x35, x36, x37, x38, x39, x40, x41, x42, x43, x44, x45, x46, x47, x48, x49, x50, x51, x52, x53, x54, x55, x56, x57, x58, x59, x60, x61, x62, x63, x64, x65, x66, x67, x68, x69, x70, x71, x72, x73, x74, x75, x76, x77, x78, x79, x80, x81, x82, x83, x84, x85, x86, x87, x88, x89, x90, x91, x92, x93, x94, x95, x96, x97, x98, x99, x100, x101, x102, x103, x104, x105, x106, x107, x108, x109, x110, x111, x112, x113, x114, x115, x116, x117, x118, x119, x120, x121, x122, x123, x124, x125, x126, x127, x128], []⟩ w1) :
    Code.wp Try.prog (reg 8) Q ⟨#[x0, x1, x2, x3, x4, x5, x6, x7, x8, x9, .int .i64 (t : Int), x11, x12, x13, x14, x15, x16, x17, x18, x19, x20, x21, x22, x23, x24, x25, x26, x27, x28, x29, x30, x31, x32, x33, x34, x35, x36, x37, x38, x39, x40, x41, x42, x43, x44, x45, x46, x47, x48, x49, x50, x51, x52, x53, x54, x55, x56, x57, x58, x59, x60, x61, x62, x63, x64, x65, x66, x67, x68, x69, x70, x71, x72, x73, x74, x75, x76, x77, x78, x79, x80, x81, x82, x83, x84, x85, x86, x87, x88, x89, x90, x91, x92, x93, x94, x95, x96, x97, x98, x99, x100, x101, x102, x103, x104, x105, x106, x107, x108, x109, x110, x111, x112, x113, x114, x115, x116, x117, x118, x119, x120, x121, x122, x123, x124, x125, x126, x127, x128], []⟩ w0 := by
  have HK := Lib.hid hK
  clear hK
  conv => arg 2; whnf
  have e : ((t + 1 : Nat) : Int) = (t : Int) + 1 := by omega
  rw [e] at HK
  have zt : (t : Int) < 64 := by omega
  clear e
  go_wp2
  exact HK.out _ _ _ rfl

set_option maxHeartbeats 4000000 in
set_option maxRecDepth 100000 in
theorem L16T (w0 : World) (i : Nat) (hi : i < 8) {Q : Exit → Act → World → Prop} {x0 x1 x2 x3 x4 x5 x6 x7 x8 x9 x10 x11 x12 x13 x14 x15 x16 x17 x19 x20 x21 x22 x23 x24 x25 x26 x27 x28 x29 x30 x31 x32 x33 x34 x35 x36 x37 x38 x39 x40 x41 x42 x43 x44 x45 x46 x47 x48 x49 x50 x51 x52 x53 x54 x55 x56 x57 x58 x59 x60 x61 x62 x63 x64 x65 x66 x67 x68 x69 x70 x71 x72 x73 x74 x75 x76 x77 x78 x79 x80 x81 x82 x83 x84 x85 x86 x87 x88 x89 x90 x91 x92 x93 x94 x95 x96 x97 x98 x99 x100 x101 x102 x103 x104 x105 x106 x107 x108 x109 x110 x111 x112 x113 x114 x115 x116 x117 x118 x119 x120 x121 x122 x123 x124 x125 x126 x127 x128 : Value} (hK : ∀ (w1 : World) (y115 : Value), w1 = w0 → Q .normal ⟨#[x0, x1, x2, x3, x4, x5, x6, x7, x8, x9, x10, x11, x12, x13, x14, x15, x16, x17, .int .i64 (i : Int), x19, x20, x21, x22, x23, x24, x25, x26, x27, x28, x29, x30, x31, x32, x33, x34, x35, x36, x37, x38, x39, x40, x41, x42, x43, x44, x45, x46, x47, x48, x49, x50, x51, x52, x53, x54, x55, x56, x57, x58, x59, x60, x61, x62, x63, x64, x65, x66, x67, x68, x69, x70, x71, x72, x73, x74, x75, x76, x77, x78, x79, x80, x81, x82, x83, x84, x85, x86, x87, x88, x89, x90, x91, x92, x93, x94, x95, x96, x97, x98, x99, x100, x101, x102, x103, x104, x105, x106, x107, x108, x109, x110, x111, x112, x113, x114, y115, .bool true, x117, x118, x119, x120, x121, x122, x123, x124, x125, x126, x127, x128], []⟩ w1) :
    Code.wp Try.prog (reg 16) Q ⟨#[x0, x1, x2, x3, x4, x5, x6, x7, x8, x9, x10, x11, x12, x13, x14, x15, x16, x17, .int .i64 (i : Int), x19, x20, x21, x22, x23, x24, x25, x26, x27, x28, x29, x30, x31, x32, x33, x34, x35, x36, x37, x38, x39, x40, x41, x42, x43, x44, x45, x46, x47, x48, x49, x50, x51, x52, x53, x54, x55, x56, x57, x58, x59, x60, x61, x62, x63, x64, x65, x66, x67, x68, x69, x70, x71, x72, x73, x74, x75, x76, x77, x78, x79, x80, x81, x82, x83, x84, x85, x86, x87, x88, x89, x90, x91, x92, x93, x94, x95, x96, x97, x98, x99, x100, x101, x102, x103, x104, x105, x106, x107, x108, x109, x110, x111, x112, x113, x114, x115, x116, x117, x118, x119, x120, x121, x122, x123, x124, x125, x126, x127, x128], []⟩ w0 := by
  have HK := Lib.hid hK
  clear hK
  conv => arg 2; whnf
  have zt : (i : Int) < 8 := by omega
  go_wp2
  exact HK.out _ _ rfl

set_option maxHeartbeats 4000000 in
set_option maxRecDepth 100000 in
theorem L16F (w0 : World) {Q : Exit → Act → World → Prop} {x0 x1 x2 x3 x4 x5 x6 x7 x8 x9 x10 x11 x12 x13 x14 x15 x16 x17 x19 x20 x21 x22 x23 x24 x25 x26 x27 x28 x29 x30 x31 x32 x33 x34 x35 x36 x37 x38 x39 x40 x41 x42 x43 x44 x45 x46 x47 x48 x49 x50 x51 x52 x53 x54 x55 x56 x57 x58 x59 x60 x61 x62 x63 x64 x65 x66 x67 x68 x69 x70 x71 x72 x73 x74 x75 x76 x77 x78 x79 x80 x81 x82 x83 x84 x85 x86 x87 x88 x89 x90 x91 x92 x93 x94 x95 x96 x97 x98 x99 x100 x101 x102 x103 x104 x105 x106 x107 x108 x109 x110 x111 x112 x113 x114 x115 x116 x117 x118 x119 x120 x121 x122 x123 x124 x125 x126 x127 x128 : Value} (hK : ∀ (w1 : World) (y115 : Value), w1 = w0 → Q .normal ⟨#[x0, x1, x2, x3, x4, x5, x6, x7, x8, x9, x10, x11, x12, x13, x14, x15, x16, x17, .int .i64 8, x19, x20, x21, x22, x23, x24, x25, x26, x27, x28, x29, x30, x31, x32, x33, x34, x35, x36, x37, x38, x39, x40, x41, x42, x43, x44, x45, x46, x47, x48, x49, x50, x51, x52, x53, x54, x55, x56, x57, x58, x59, x60, x61, x62, x63, x64, x65, x66, x67, x68, x69, x70, x71, x72, x73, x74, x75, x76, x77, x78, x79, x80, x81, x82, x83, x84, x85, x86, x87, x88, x89, x90, x91, x92, x93, x94, x95, x96, x97, x98, x99, x100, x101, x102, x103, x104, x105, x106, x107, x108, x109, x110, x111, x112, x113, x114, y115, .bool false, x117, x118, x119, x120, x121, x122, x123, x124, x125, x126, x127, x128], []⟩ w1) :
    Code.wp Try.prog (reg 16) Q ⟨#[x0, x1, x2, x3, x4, x5, x6, x7, x8, x9, x10, x11, x12, x13, x14, x15, x16, x17, .int .i64 8, x19, x20, x21, x22, x23, x24, x25, x26, x27, x28, x29, x30, x31, x32, x33, x34, x35, x36, x37, x38, x39, x40, x41, x42, x43, x44, x45, x46, x47, x48, x49, x50, x51, x52, x53, x54, x55, x56, x57, x58, x59, x60, x61, x62, x63, x64, x65, x66, x67, x68, x69, x70, x71, x72, x73, x74, x75, x76, x77, x78, x79, x80, x81, x82, x83, x84, x85, x86, x87, x88, x89, x90, x91, x92, x93, x94, x95, x96, x97, x98, x99, x100, x101, x102, x103, x104, x105, x106, x107, x108, x109, x110, x111, x112, x113, x114, x115, x116, x117, x118, x119, x120, x121, x122, x123, x124, x125, x126, x127, x128], []⟩ w0 := by
  have HK := Lib.hid hK
  clear hK
  conv => arg 2; whnf
  go_wp2
  exact HK.out _ _ rfl

set_option maxHeartbeats 4000000 in
set_option maxRecDepth 100000 in
theorem L17 (w0 : World) (i : Nat) (hi : i < 8) {Q : Exit → Act → World → Prop} {x0 x1 x2 x3 x4 x5 x6 x7 x8 x9 x10 x11 x12 x13 x14 x15 x16 x17 x19 x20 x21 x22 x23 x24 x25 x26 x27 x28 x29 x30 x31 x32 x33 x34 x35 x36 x37 x38 x39 x40 x41 x42 x43 x44 x45 x46 x47 x48 x49 x50 x51 x52 x53 x54 x55 x56 x57 x58 x59 x60 x61 x62 x63 x64 x65 x66 x67 x68 x69 x70 x71 x72 x73 x74 x75 x76 x77 x78 x79 x80 x81 x82 x83 x84 x85 x86 x87 x88 x89 x90 x91 x92 x93 x94 x95 x96 x97 x98 x99 x100 x101 x102 x103 x104 x105 x106 x107 x108 x109 x110 x111 x112 x113 x114 x115 x116 x117 x118 x119 x120 x121 x122 x123 x124 x125 x126 x127 x128 : Value} (hK : ∀ (w1 : World) (y117 y118 : Value), w1 = w0 → Q .normal ⟨#[x0, x1, x2, x3, x4, x5, x6, x7, x8, x9, x10, x11, x12, x13, x14, x15, x16, x17, .int .i64 ((i + 1 : Nat) : Int), x19, x20, x21, x22, x23, x24, x25, x26, x27, x28, x29, x30, x31, x32, x33, x34, x35, x36, x37, x38, x39, x40, x41, x42, x43, x44, x45, x46, x47, x48, x49, x50, x51, x52, x53, x54, x55, x56, x57, x58, x59, x60, x61, x62, x63, x64, x65, x66, x67, x68, x69, x70, x71, x72, x73, x74, x75, x76, x77, x78, x79, x80, x81, x82, x83, x84, x85, x86, x87, x88, x89, x90, x91, x92, x93, x94, x95, x96, x97, x98, x99, x100, x101, x102, x103, x104, x105, x106, x107, x108, x109, x110, x111, x112, x113, x114, x115, x116, y117, y118, x119, x120, x121, x122, x123, x124, x125, x126, x127, x128], []⟩ w1) :
    Code.wp Try.prog (reg 17) Q ⟨#[x0, x1, x2, x3, x4, x5, x6, x7, x8, x9, x10, x11, x12, x13, x14, x15, x16, x17, .int .i64 (i : Int), x19, x20, x21, x22, x23, x24, x25, x26, x27, x28, x29, x30, x31, x32, x33, x34, x35, x36, x37, x38, x39, x40, x41, x42, x43, x44, x45, x46, x47, x48, x49, x50, x51, x52, x53, x54, x55, x56, x57, x58, x59, x60, x61, x62, x63, x64, x65, x66, x67, x68, x69, x70, x71, x72, x73, x74, x75, x76, x77, x78, x79, x80, x81, x82, x83, x84, x85, x86, x87, x88, x89, x90, x91, x92, x93, x94, x95, x96, x97, x98, x99, x100, x101, x102, x103, x104, x105, x106, x107, x108, x109, x110, x111, x112, x113, x114, x115, x116, x117, x118, x119, x120, x121, x122, x123, x124, x125, x126, x127, x128], []⟩ w0 := by
  have HK := Lib.hid hK
  clear hK
  conv => arg 2; whnf
  have e : ((i + 1 : Nat) : Int) = (i : Int) + 1 := by omega
  rw [e] at HK
  have zt : (i : Int) < 8 := by omega
  clear e
  go_wp2
  exact HK.out _ _ _ rfl

noncomputable def body1 : Code := .seq (.seq (reg 7) (.cond (.tmp 31) .skip (.exit 0))) (.seq (.block 1 (.seq (reg 9) (.seq (reg 10) (.seq (reg 11) (.seq (reg 12) (.seq (reg 13) (reg 14))))))) (reg 8))
noncomputable def body2 : Code := .seq (.seq (reg 16) (.cond (.tmp 116) .skip (.exit 2))) (.seq (.block 3 (reg 18)) (reg 17))

set_option maxRecDepth 100000 in
def Sh1 (w : World) (gw gk gs t : Nat) (J : Nat → Value) : Act := ⟨#[J 0, J 1, .pointer (some ⟨w.heap.size, 0, none⟩), J 3, .pointer (some ⟨w.heap.size + 1, 0, none⟩), J 5, .pointer (some ⟨gw, 0, none⟩), J 7, .pointer (some ⟨gk, 0, none⟩), .pointer (some ⟨gs, 0, none⟩), .int .i64 (t : Int), J 11, J 12, J 13, J 14, J 15, J 16, J 17, J 18, J 19, J 20, J 21, J 22, J 23, J 24, J 25, J 26, J 27, J 28, J 29, J 30, J 31, J 32, J 33, J 34, J 35, J 36, J 37, J 38, J 39, J 40, J 41, J 42, J 43, J 44, J 45, J 46, J 47, J 48, J 49, J 50, J 51, J 52, J 53, J 54, J 55, J 56, J 57, J 58, J 59, J 60, J 61, J 62, J 63, J 64, J 65, J 66, J 67, J 68, J 69, J 70, J 71, J 72, J 73, J 74, J 75, J 76, J 77, J 78, J 79, J 80, J 81, J 82, J 83, J 84, J 85, J 86, J 87, J 88, J 89, J 90, J 91, J 92, J 93, J 94, J 95, J 96, J 97, J 98, J 99, J 100, J 101, J 102, J 103, J 104, J 105, J 106, J 107, J 108, J 109, J 110, J 111, J 112, J 113, J 114, J 115, J 116, J 117, J 118, J 119, J 120, J 121, J 122, J 123, J 124, J 125, J 126, J 127, J 128], []⟩
set_option maxRecDepth 100000 in
theorem Sh1_to (w : World) (gw gk gs t : Nat) {Q : Exit → Act → World → Prop} {e : Exit} {w' : World} {x0 x1 x3 x5 x7 x11 x12 x13 x14 x15 x16 x17 x18 x19 x20 x21 x22 x23 x24 x25 x26 x27 x28 x29 x30 x31 x32 x33 x34 x35 x36 x37 x38 x39 x40 x41 x42 x43 x44 x45 x46 x47 x48 x49 x50 x51 x52 x53 x54 x55 x56 x57 x58 x59 x60 x61 x62 x63 x64 x65 x66 x67 x68 x69 x70 x71 x72 x73 x74 x75 x76 x77 x78 x79 x80 x81 x82 x83 x84 x85 x86 x87 x88 x89 x90 x91 x92 x93 x94 x95 x96 x97 x98 x99 x100 x101 x102 x103 x104 x105 x106 x107 x108 x109 x110 x111 x112 x113 x114 x115 x116 x117 x118 x119 x120 x121 x122 x123 x124 x125 x126 x127 x128 : Value} (h : ∀ J, Q e (Sh1 w gw gk gs t J) w') : Q e ⟨#[x0, x1, .pointer (some ⟨w.heap.size, 0, none⟩), x3, .pointer (some ⟨w.heap.size + 1, 0, none⟩), x5, .pointer (some ⟨gw, 0, none⟩), x7, .pointer (some ⟨gk, 0, none⟩), .pointer (some ⟨gs, 0, none⟩), .int .i64 (t : Int), x11, x12, x13, x14, x15, x16, x17, x18, x19, x20, x21, x22, x23, x24, x25, x26, x27, x28, x29, x30, x31, x32, x33, x34, x35, x36, x37, x38, x39, x40, x41, x42, x43, x44, x45, x46, x47, x48, x49, x50, x51, x52, x53, x54, x55, x56, x57, x58, x59, x60, x61, x62, x63, x64, x65, x66, x67, x68, x69, x70, x71, x72, x73, x74, x75, x76, x77, x78, x79, x80, x81, x82, x83, x84, x85, x86, x87, x88, x89, x90, x91, x92, x93, x94, x95, x96, x97, x98, x99, x100, x101, x102, x103, x104, x105, x106, x107, x108, x109, x110, x111, x112, x113, x114, x115, x116, x117, x118, x119, x120, x121, x122, x123, x124, x125, x126, x127, x128], []⟩ w' :=
  h (fun i => ([x0, x1, undef, x3, undef, x5, undef, x7, undef, undef, undef, x11, x12, x13, x14, x15, x16, x17, x18, x19, x20, x21, x22, x23, x24, x25, x26, x27, x28, x29, x30, x31, x32, x33, x34, x35, x36, x37, x38, x39, x40, x41, x42, x43, x44, x45, x46, x47, x48, x49, x50, x51, x52, x53, x54, x55, x56, x57, x58, x59, x60, x61, x62, x63, x64, x65, x66, x67, x68, x69, x70, x71, x72, x73, x74, x75, x76, x77, x78, x79, x80, x81, x82, x83, x84, x85, x86, x87, x88, x89, x90, x91, x92, x93, x94, x95, x96, x97, x98, x99, x100, x101, x102, x103, x104, x105, x106, x107, x108, x109, x110, x111, x112, x113, x114, x115, x116, x117, x118, x119, x120, x121, x122, x123, x124, x125, x126, x127, x128] : List Value).getD i undef)

set_option maxRecDepth 100000 in
def Sh2 (w : World) (gs i : Nat) (J : Nat → Value) : Act := ⟨#[J 0, J 1, .pointer (some ⟨w.heap.size, 0, none⟩), J 3, .pointer (some ⟨w.heap.size + 1, 0, none⟩), J 5, J 6, J 7, J 8, .pointer (some ⟨gs, 0, none⟩), J 10, J 11, J 12, J 13, J 14, J 15, J 16, J 17, .int .i64 (i : Int), J 19, J 20, J 21, J 22, J 23, J 24, J 25, J 26, J 27, J 28, J 29, J 30, J 31, J 32, J 33, J 34, J 35, J 36, J 37, J 38, J 39, J 40, J 41, J 42, J 43, J 44, J 45, J 46, J 47, J 48, J 49, J 50, J 51, J 52, J 53, J 54, J 55, J 56, J 57, J 58, J 59, J 60, J 61, J 62, J 63, J 64, J 65, J 66, J 67, J 68, J 69, J 70, J 71, J 72, J 73, J 74, J 75, J 76, J 77, J 78, J 79, J 80, J 81, J 82, J 83, J 84, J 85, J 86, J 87, J 88, J 89, J 90, J 91, J 92, J 93, J 94, J 95, J 96, J 97, J 98, J 99, J 100, J 101, J 102, J 103, J 104, J 105, J 106, J 107, J 108, J 109, J 110, J 111, J 112, J 113, J 114, J 115, J 116, J 117, J 118, J 119, J 120, J 121, J 122, J 123, J 124, J 125, J 126, J 127, J 128], []⟩
set_option maxRecDepth 100000 in
theorem Sh2_to (w : World) (gs i : Nat) {Q : Exit → Act → World → Prop} {e : Exit} {w' : World} {x0 x1 x3 x5 x6 x7 x8 x10 x11 x12 x13 x14 x15 x16 x17 x19 x20 x21 x22 x23 x24 x25 x26 x27 x28 x29 x30 x31 x32 x33 x34 x35 x36 x37 x38 x39 x40 x41 x42 x43 x44 x45 x46 x47 x48 x49 x50 x51 x52 x53 x54 x55 x56 x57 x58 x59 x60 x61 x62 x63 x64 x65 x66 x67 x68 x69 x70 x71 x72 x73 x74 x75 x76 x77 x78 x79 x80 x81 x82 x83 x84 x85 x86 x87 x88 x89 x90 x91 x92 x93 x94 x95 x96 x97 x98 x99 x100 x101 x102 x103 x104 x105 x106 x107 x108 x109 x110 x111 x112 x113 x114 x115 x116 x117 x118 x119 x120 x121 x122 x123 x124 x125 x126 x127 x128 : Value} (h : ∀ J, Q e (Sh2 w gs i J) w') : Q e ⟨#[x0, x1, .pointer (some ⟨w.heap.size, 0, none⟩), x3, .pointer (some ⟨w.heap.size + 1, 0, none⟩), x5, x6, x7, x8, .pointer (some ⟨gs, 0, none⟩), x10, x11, x12, x13, x14, x15, x16, x17, .int .i64 (i : Int), x19, x20, x21, x22, x23, x24, x25, x26, x27, x28, x29, x30, x31, x32, x33, x34, x35, x36, x37, x38, x39, x40, x41, x42, x43, x44, x45, x46, x47, x48, x49, x50, x51, x52, x53, x54, x55, x56, x57, x58, x59, x60, x61, x62, x63, x64, x65, x66, x67, x68, x69, x70, x71, x72, x73, x74, x75, x76, x77, x78, x79, x80, x81, x82, x83, x84, x85, x86, x87, x88, x89, x90, x91, x92, x93, x94, x95, x96, x97, x98, x99, x100, x101, x102, x103, x104, x105, x106, x107, x108, x109, x110, x111, x112, x113, x114, x115, x116, x117, x118, x119, x120, x121, x122, x123, x124, x125, x126, x127, x128], []⟩ w' :=
  h (fun i => ([x0, x1, undef, x3, undef, x5, x6, x7, x8, undef, x10, x11, x12, x13, x14, x15, x16, x17, undef, x19, x20, x21, x22, x23, x24, x25, x26, x27, x28, x29, x30, x31, x32, x33, x34, x35, x36, x37, x38, x39, x40, x41, x42, x43, x44, x45, x46, x47, x48, x49, x50, x51, x52, x53, x54, x55, x56, x57, x58, x59, x60, x61, x62, x63, x64, x65, x66, x67, x68, x69, x70, x71, x72, x73, x74, x75, x76, x77, x78, x79, x80, x81, x82, x83, x84, x85, x86, x87, x88, x89, x90, x91, x92, x93, x94, x95, x96, x97, x98, x99, x100, x101, x102, x103, x104, x105, x106, x107, x108, x109, x110, x111, x112, x113, x114, x115, x116, x117, x118, x119, x120, x121, x122, x123, x124, x125, x126, x127, x128] : List Value).getD i undef)

set_option maxHeartbeats 4000000 in
set_option maxRecDepth 100000 in
theorem round1 (w : World) (s W : List Nat) (gw gk gs : Nat) (l0 : w.heap.size + 1 < gw) (l1 : gw < gk) (l2 : gk < gs) (w0 : World) (t : Nat) (ht : t < 64) (hs32 : W32 s) (hWl : W.length = 64) (R : Hid (Rows5 w s W (rnds (St.of s) kw W t).l gw gk gs w0)) {Q : Exit → Act → World → Prop} {x0 x1 x3 x5 x7 x11 x12 x13 x14 x15 x16 x17 x18 x19 x20 x21 x22 x23 x24 x25 x26 x27 x28 x29 x30 x31 x32 x33 x34 x35 x36 x37 x38 x39 x40 x41 x42 x43 x44 x45 x46 x47 x48 x49 x50 x51 x52 x53 x54 x55 x56 x57 x58 x59 x60 x61 x62 x63 x64 x65 x66 x67 x68 x69 x70 x71 x72 x73 x74 x75 x76 x77 x78 x79 x80 x81 x82 x83 x84 x85 x86 x87 x88 x89 x90 x91 x92 x93 x94 x95 x96 x97 x98 x99 x100 x101 x102 x103 x104 x105 x106 x107 x108 x109 x110 x111 x112 x113 x114 x115 x116 x117 x118 x119 x120 x121 x122 x123 x124 x125 x126 x127 x128 : Value}
    (hK : ∀ J w1, Hid (Rows5 w s W (rnds (St.of s) kw W (t + 1)).l gw gk gs w1) → Q .normal (Sh1 w gw gk gs (t + 1) J) w1) :
    Code.wp Try.prog body1 Q ⟨#[x0, x1, .pointer (some ⟨w.heap.size, 0, none⟩), x3, .pointer (some ⟨w.heap.size + 1, 0, none⟩), x5, .pointer (some ⟨gw, 0, none⟩), x7, .pointer (some ⟨gk, 0, none⟩), .pointer (some ⟨gs, 0, none⟩), .int .i64 (t : Int), x11, x12, x13, x14, x15, x16, x17, x18, x19, x20, x21, x22, x23, x24, x25, x26, x27, x28, x29, x30, x31, x32, x33, x34, x35, x36, x37, x38, x39, x40, x41, x42, x43, x44, x45, x46, x47, x48, x49, x50, x51, x52, x53, x54, x55, x56, x57, x58, x59, x60, x61, x62, x63, x64, x65, x66, x67, x68, x69, x70, x71, x72, x73, x74, x75, x76, x77, x78, x79, x80, x81, x82, x83, x84, x85, x86, x87, x88, x89, x90, x91, x92, x93, x94, x95, x96, x97, x98, x99, x100, x101, x102, x103, x104, x105, x106, x107, x108, x109, x110, x111, x112, x113, x114, x115, x116, x117, x118, x119, x120, x121, x122, x123, x124, x125, x126, x127, x128], []⟩ w0 := by
  obtain ⟨q, hq⟩ : ∃ q, rnds (St.of s) kw W t = q := ⟨_, rfl⟩
  have hok : q.ok := by rw [← hq]; exact rnds_ok _ _ _ (St.of_ok hs32) t
  obtain ⟨kt, hkt⟩ : ∃ x, kw.getD t 0 = x := ⟨_, rfl⟩
  obtain ⟨wt, hwt⟩ : ∃ x, W.getD t 0 = x := ⟨_, rfl⟩
  have CK : Hid ((ws kw)[t]? = some (.int .u32 (kt : Int))) := by rw [← hkt]; exact ws_cell kw t (by rw [kw_length]; exact ht)
  have CW : Hid ((ws W)[t]? = some (.int .u32 (wt : Int))) := by rw [← hwt]; exact ws_cell W t (by rw [hWl]; exact ht)
  have HQ : rnds (St.of s) kw W (t + 1) = rnd q kt wt := by subst hkt hwt; rw [rnds, hq]
  rw [HQ] at hK
  rw [hq] at R
  obtain ⟨o1, o2, o3, o4, o5, o6, o7, o8⟩ := hok
  unfold body1
  refine wp_seq (wp_seq (L7T _ t ht ?_))
  intro w1 y30 hw
  subst hw
  refine wp_cond_true rfl (wp_skip ?_)
  refine wp_seq (wp_block (wp_seq (L9 w s W q gw gk gs _ R ?_)))
  intro w1 y34 y35 y36 y37 y38 y39 R
  refine wp_seq (L10 w s W q gw gk gs _ R o5 ?_)
  intro w1 y40 y41 y42 y43 y44 y45 y46 y47 R
  refine wp_seq (L11 w s W q gw gk gs _ R t kt wt ht CK CW o5 o6 o7 ?_)
  intro w1 y48 y49 y50 y51 y52 y53 y54 y55 y56 y57 y58 y59 y60 y61 y62 y63 y64 y65 y66 y67 y68 y69 R
  refine wp_seq (L12 w s W q gw gk gs _ R o1 ?_)
  intro w1 y70 y71 y72 y73 y74 y75 y76 y77 R
  refine wp_seq (L13 w s W q gw gk gs _ R o1 o2 o3 ?_)
  intro w1 y78 y79 y80 y81 y82 y83 y84 y85 y86 y87 y88 y89 y90 y91 y92 y93 y94 R
  refine L14 w s W q gw gk gs _ R kt wt l0 l1 l2 ?_
  intro w1 y95 y96 y97 y98 y99 y100 y101 y102 y103 y104 y105 y106 y107 y108 y109 y110 y111 y112 y113 y114 R
  refine L8 _ t ht ?_
  intro w1 y32 y33 hw
  subst hw
  exact Sh1_to w gw gk gs (t + 1) (fun J => hK J _ R)

def mu1 (a : Act) (_ : World) : Nat := 64 - (intOf (a.tmps.toList.getD 10 undef)).toNat
theorem mu1_eq (w : World) (gw gk gs t : Nat) (J : Nat → Value) (w' : World) : mu1 (Sh1 w gw gk gs t J) w' = 64 - t := rfl
def mu2 (a : Act) (_ : World) : Nat := 8 - (intOf (a.tmps.toList.getD 18 undef)).toNat
theorem mu2_eq (w : World) (gs i : Nat) (J : Nat → Value) (w' : World) : mu2 (Sh2 w gs i J) w' = 8 - i := rfl

set_option maxHeartbeats 4000000 in
set_option maxRecDepth 100000 in
theorem loop1 (w : World) (s W : List Nat) (gw gk gs : Nat) (l0 : w.heap.size + 1 < gw) (l1 : gw < gk) (l2 : gk < gs) (w0 : World) (hs32 : W32 s) (hWl : W.length = 64) (R : Hid (Rows5 w s W (St.of s).l gw gk gs w0)) {Q : Exit → Act → World → Prop} {x0 x1 x3 x5 x7 x11 x12 x13 x14 x15 x16 x17 x18 x19 x20 x21 x22 x23 x24 x25 x26 x27 x28 x29 x30 x31 x32 x33 x34 x35 x36 x37 x38 x39 x40 x41 x42 x43 x44 x45 x46 x47 x48 x49 x50 x51 x52 x53 x54 x55 x56 x57 x58 x59 x60 x61 x62 x63 x64 x65 x66 x67 x68 x69 x70 x71 x72 x73 x74 x75 x76 x77 x78 x79 x80 x81 x82 x83 x84 x85 x86 x87 x88 x89 x90 x91 x92 x93 x94 x95 x96 x97 x98 x99 x100 x101 x102 x103 x104 x105 x106 x107 x108 x109 x110 x111 x112 x113 x114 x115 x116 x117 x118 x119 x120 x121 x122 x123 x124 x125 x126 x127 x128 : Value}
    (hK : ∀ J w1, Hid (Rows5 w s W (rnds (St.of s) kw W 64).l gw gk gs w1) → Q (.exit 0) (Sh1 w gw gk gs 64 J) w1) :
    Code.wp Try.prog (.loop body1) Q ⟨#[x0, x1, .pointer (some ⟨w.heap.size, 0, none⟩), x3, .pointer (some ⟨w.heap.size + 1, 0, none⟩), x5, .pointer (some ⟨gw, 0, none⟩), x7, .pointer (some ⟨gk, 0, none⟩), .pointer (some ⟨gs, 0, none⟩), .int .i64 0, x11, x12, x13, x14, x15, x16, x17, x18, x19, x20, x21, x22, x23, x24, x25, x26, x27, x28, x29, x30, x31, x32, x33, x34, x35, x36, x37, x38, x39, x40, x41, x42, x43, x44, x45, x46, x47, x48, x49, x50, x51, x52, x53, x54, x55, x56, x57, x58, x59, x60, x61, x62, x63, x64, x65, x66, x67, x68, x69, x70, x71, x72, x73, x74, x75, x76, x77, x78, x79, x80, x81, x82, x83, x84, x85, x86, x87, x88, x89, x90, x91, x92, x93, x94, x95, x96, x97, x98, x99, x100, x101, x102, x103, x104, x105, x106, x107, x108, x109, x110, x111, x112, x113, x114, x115, x116, x117, x118, x119, x120, x121, x122, x123, x124, x125, x126, x127, x128], []⟩ w0 := by
  refine wp_loop (fun a w' => ∃ t J, t ≤ 64 ∧ Hid (Rows5 w s W (rnds (St.of s) kw W t).l gw gk gs w') ∧ a = Sh1 w gw gk gs t J) mu1 ?_ ?_
  · exact Sh1_to (Q := fun _ a w' => ∃ t J, t ≤ 64 ∧ Hid (Rows5 w s W (rnds (St.of s) kw W t).l gw gk gs w') ∧ a = Sh1 w gw gk gs t J) (e := .normal) w gw gk gs 0 (fun J => ⟨0, J, by omega, R, rfl⟩)
  · rintro a w' ⟨t, J, ht, R', rfl⟩
    by_cases h : t < 64
    · refine round1 w s W gw gk gs l0 l1 l2 w' t h hs32 hWl R' ?_
      intro J' w1 R1
      exact ⟨⟨t + 1, J', by omega, R1, rfl⟩, by rw [mu1_eq, mu1_eq]; omega⟩
    · obtain rfl : t = 64 := by omega
      unfold body1
      refine wp_seq (wp_seq (L7F _ ?_))
      intro w1 y30 hw
      subst hw
      refine wp_cond_false rfl (wp_exit ?_)
      exact Sh1_to w gw gk gs 64 (fun J => hK J _ R')

set_option maxHeartbeats 4000000 in
set_option maxRecDepth 100000 in
theorem loop2 (w : World) (s W : List Nat) (gw gk gs : Nat) (l0 : w.heap.size + 1 < gw) (l1 : gw < gk) (l2 : gk < gs) (V F : List Nat) (w0 : World) (hs : s.length = 8) (hV : V.length = 8) (hF : F.length = 8) (hFV : ∀ i, i < 8 → F.getD i 0 = ad (V.getD i 0) (s.getD i 0)) (R : Hid (Rows5 w s W V gw gk gs w0)) {Q : Exit → Act → World → Prop} {x0 x1 x3 x5 x6 x7 x8 x10 x11 x12 x13 x14 x15 x16 x17 x19 x20 x21 x22 x23 x24 x25 x26 x27 x28 x29 x30 x31 x32 x33 x34 x35 x36 x37 x38 x39 x40 x41 x42 x43 x44 x45 x46 x47 x48 x49 x50 x51 x52 x53 x54 x55 x56 x57 x58 x59 x60 x61 x62 x63 x64 x65 x66 x67 x68 x69 x70 x71 x72 x73 x74 x75 x76 x77 x78 x79 x80 x81 x82 x83 x84 x85 x86 x87 x88 x89 x90 x91 x92 x93 x94 x95 x96 x97 x98 x99 x100 x101 x102 x103 x104 x105 x106 x107 x108 x109 x110 x111 x112 x113 x114 x115 x116 x117 x118 x119 x120 x121 x122 x123 x124 x125 x126 x127 x128 : Value}
    (hK : ∀ J w1, Hid (Rows5 w s W F gw gk gs w1) → Q (.exit 2) (Sh2 w gs 8 J) w1) :
    Code.wp Try.prog (.loop body2) Q ⟨#[x0, x1, .pointer (some ⟨w.heap.size, 0, none⟩), x3, .pointer (some ⟨w.heap.size + 1, 0, none⟩), x5, x6, x7, x8, .pointer (some ⟨gs, 0, none⟩), x10, x11, x12, x13, x14, x15, x16, x17, .int .i64 0, x19, x20, x21, x22, x23, x24, x25, x26, x27, x28, x29, x30, x31, x32, x33, x34, x35, x36, x37, x38, x39, x40, x41, x42, x43, x44, x45, x46, x47, x48, x49, x50, x51, x52, x53, x54, x55, x56, x57, x58, x59, x60, x61, x62, x63, x64, x65, x66, x67, x68, x69, x70, x71, x72, x73, x74, x75, x76, x77, x78, x79, x80, x81, x82, x83, x84, x85, x86, x87, x88, x89, x90, x91, x92, x93, x94, x95, x96, x97, x98, x99, x100, x101, x102, x103, x104, x105, x106, x107, x108, x109, x110, x111, x112, x113, x114, x115, x116, x117, x118, x119, x120, x121, x122, x123, x124, x125, x126, x127, x128], []⟩ w0 := by
  refine wp_loop (fun a w' => ∃ i J, i ≤ 8 ∧ Hid (Rows5 w s W (mix F V i) gw gk gs w') ∧ a = Sh2 w gs i J) mu2 ?_ ?_
  · refine Sh2_to (Q := fun _ a w' => ∃ i J, i ≤ 8 ∧ Hid (Rows5 w s W (mix F V i) gw gk gs w') ∧ a = Sh2 w gs i J) (e := .normal) w gs 0 (fun J => ⟨0, J, by omega, ?_, rfl⟩)
    rw [mix_zero]; exact R
  · rintro a w' ⟨i, J, hi, R', rfl⟩
    by_cases h : i < 8
    · unfold body2
      refine wp_seq (wp_seq (L16T _ i h ?_))
      intro w1 y115 hw
      subst hw
      refine wp_cond_true rfl (wp_skip ?_)
      refine wp_seq (wp_block (L18 w s W (mix F V i) gw gk gs _ R' i h (mix_length F V i hF hV hi) hs l0 l1 l2 ?_))
      intro w1 y119 y120 y121 y122 y123 y124 y125 y126 y127 R1
      refine L17 _ i h ?_
      intro w2 y117 y118 hw
      subst hw
      rw [mix_at F V i hF h, ← hFV i h, mix_set F V i hF hV h] at R1
      exact Sh2_to (Q := fun e a w' => Exit.then _ _ e a w') (e := .normal) w gs (i + 1) (fun J' => ⟨⟨i + 1, J', by omega, R1, rfl⟩, by rw [mu2_eq, mu2_eq]; omega⟩)
    · obtain rfl : i = 8 := by omega
      rw [mix_full F V hF hV] at R'
      unfold body2
      refine wp_seq (wp_seq (L16F _ ?_))
      intro w1 y115 hw
      subst hw
      refine wp_cond_false rfl (wp_exit ?_)
      exact Sh2_to w gs 8 (fun J => hK J _ R')

end Go.Proofs.Ytnemkefmlffigaa

/- Any keys and signatures are taken, or refused, as the document has it: for all bytes the law answers true. No condition. -/
import Derived.Test.YthelmpjkkkhopaaGreatDoorZEwHg
set_option linter.unusedSimpArgs false
set_option linter.unusedVariables false
set_option linter.unusedSectionVars false
namespace Go.Proofs.YthelmpjkkkhopaaGreatDoor
open Go.Ev Go.Wn Go.Mo
open Go.ChangeShapes Go.WideShapes Go.ChangeAt Go.RowKit
set_option maxRecDepth 100000
theorem e2t {W : World} (j : Nat) {v : Value} (hv : v = .slice none 0 0 ∨ ∃ (a : Addr) (len cap : Nat) (zs : List Int),v = .slice (some a) len cap ∧ len ≤ cap ∧ cap ≤ maxLen ∧ zs.length = cap ∧ (∀ i,i < zs.length → W.cell? (a.add i) = some (.int .u8 (zs.getD i 0))) ∧ ∀ n ∈ zs,inR .u8 n = true) :
  (∃ L,VOk W j L (.pl .nilslice) v) ∨ (∃ L,VOk W j L .empty v) ∨ (∃ (n : Nat) (l : List Int),n < 9223372036854775808 ∧ (n : Int) ≠ 64 ∧ ∃ L,VOk W j L (.buf true .u8 n l) v) ∨ ∃ l : List Int,(l.length = 64 ∧ ∀ x ∈ l,inR .u8 x = true) ∧ ∃ L,VOk W j L (.buf false .u8 64 l) v:=by
 rcases VOk.bytes j hv with h | h | ⟨n,l,h1,h2,h3,h4,h5⟩
 ·exact .inl h
 ·exact .inr (.inl h)
 ·by_cases h32 : n = 64
  ·subst h32
   exact .inr (.inr (.inr ⟨l,⟨h3,h4⟩,e6m h5⟩))
  ·exact .inr (.inr (.inl ⟨n,l,by unfold maxLen at h2;omega,by omega,h5⟩))
theorem c96 (P G : V) (m : Nat) (l : List Int) : res ((d81 Tryz.prog qE (deep Tryz.prog qE hWr 100 5) 200 4 (d7z 0 [P, .buf true .u8 m l,G]) (d87 [P, .buf true .u8 m l,G])).go [true]) = some ([decide (m < 9223372036854775808),decide ((m : Int) > 300)], .bool false true):=by kernel_rfl
theorem c09 (G : V) : res ((d81 Tryz.prog qE (deep Tryz.prog qE hWr 100 5) 200 4 (d7z 0 [.pl .nilslice, .pl .nilslice,G]) (d87 [.pl .nilslice, .pl .nilslice,G])).go []) = some ([], .bool false true):=by kernel_rfl
theorem c0a (G : V) : res ((d81 Tryz.prog qE (deep Tryz.prog qE hWr 100 5) 200 4 (d7z 0 [.empty, .pl .nilslice,G]) (d87 [.empty, .pl .nilslice,G])).go []) = some ([], .bool false true):=by kernel_rfl
theorem b8g (n : Nat) (p : List Int) : res ((d81 Tryz.prog qE (deep Tryz.prog qE hWr 100 5) 200 4 (d7z 0 [.buf true .u8 n p, .pl .nilslice, .pl .nilslice]) (d87 [.buf true .u8 n p, .pl .nilslice, .pl .nilslice])).go [true]) = some ([] ++ (decide (n < 9223372036854775808) :: (gP ((n : Int) != 32) ++ [orM ((n : Int) != 32) ((0 : Int) != 64)])) ++ (decide (n < 9223372036854775808) :: (gP ((n : Int) != 32) ++ [orM ((n : Int) != 32) ((0 : Int) != 64)])), .bool false true):=by kernel_rfl
theorem b8h (p : List Int) : res ((d81 Tryz.prog qE (deep Tryz.prog qE hWr 100 5) 200 4 (d7z 0 [.buf false .u8 32 p, .pl .nilslice, .pl .nilslice]) (d87 [.buf false .u8 32 p, .pl .nilslice, .pl .nilslice])).go []) = some ([], .bool false true):=by kernel_rfl
theorem b8i (n : Nat) (p : List Int) : res ((d81 Tryz.prog qE (deep Tryz.prog qE hWr 100 5) 200 4 (d7z 0 [.buf true .u8 n p, .pl .nilslice, .empty]) (d87 [.buf true .u8 n p, .pl .nilslice, .empty])).go [true]) = some ([] ++ (decide (n < 9223372036854775808) :: (gP ((n : Int) != 32) ++ [orM ((n : Int) != 32) ((0 : Int) != 64)])) ++ (decide (n < 9223372036854775808) :: (gP ((n : Int) != 32) ++ [orM ((n : Int) != 32) ((0 : Int) != 64)])), .bool false true):=by kernel_rfl
theorem b8j (p : List Int) : res ((d81 Tryz.prog qE (deep Tryz.prog qE hWr 100 5) 200 4 (d7z 0 [.buf false .u8 32 p, .pl .nilslice, .empty]) (d87 [.buf false .u8 32 p, .pl .nilslice, .empty])).go []) = some ([], .bool false true):=by kernel_rfl
theorem c0b (n : Nat) (p : List Int) (g : List Int) : res ((d81 Tryz.prog qE (deep Tryz.prog qE hWr 100 5) 200 4 (d7z 0 [.buf true .u8 n p, .pl .nilslice, .buf false .u8 64 g]) (d87 [.buf true .u8 n p, .pl .nilslice, .buf false .u8 64 g])).go [true]) = some ([] ++ (decide (n < 9223372036854775808) :: (gP ((n : Int) != 32) ++ [orM ((n : Int) != 32) ((64 : Int) != 64)])) ++ (decide (n < 9223372036854775808) :: (gP ((n : Int) != 32) ++ [orM ((n : Int) != 32) ((64 : Int) != 64)])), .bool false true):=by kernel_rfl
theorem c3x (fp : List Int → List Int) (fs : List Int → List Int → List Int) (fv : List Int → List Int → List Int → Bool) (p g : List Int) : res ((d81 Tryz.prog qE (deep Tryz.prog qE (hSg fp fs fv) 100 5) 200 4 (d7z 0 [.buf false .u8 32 p, .pl .nilslice, .buf false .u8 64 g]) (d87 [.buf false .u8 32 p, .pl .nilslice, .buf false .u8 64 g])).go [true]) = some ([fv [] p g], .bool true (e4s (fv [] p g) == 0)):=by kernel_rfl
theorem c3y (fp : List Int → List Int) (fs : List Int → List Int → List Int) (fv : List Int → List Int → List Int → Bool) (p g : List Int) : res ((d81 Tryz.prog qE (deep Tryz.prog qE (hSg fp fs fv) 100 5) 200 4 (d7z 0 [.buf false .u8 32 p, .pl .nilslice, .buf false .u8 64 g]) (d87 [.buf false .u8 32 p, .pl .nilslice, .buf false .u8 64 g])).go [false]) = some ([!fv [] p g], .bool true (e4s (fv [] p g) == 6)):=by kernel_rfl
theorem b8k (n : Nat) (p : List Int) (j : Nat) (g : List Int) : res ((d81 Tryz.prog qE (deep Tryz.prog qE hWr 100 5) 200 4 (d7z 0 [.buf true .u8 n p, .pl .nilslice, .buf true .u8 j g]) (d87 [.buf true .u8 n p, .pl .nilslice, .buf true .u8 j g])).go [true]) = some ([] ++ (decide (n < 9223372036854775808) :: (gB ((n : Int) != 32) j ++ [orM ((n : Int) != 32) ((j : Int) != 64)])) ++ (decide (n < 9223372036854775808) :: (gB ((n : Int) != 32) j ++ [orM ((n : Int) != 32) ((j : Int) != 64)])), .bool false true):=by kernel_rfl
theorem b8l (p : List Int) (j : Nat) (g : List Int) : res ((d81 Tryz.prog qE (deep Tryz.prog qE hWr 100 5) 200 4 (d7z 0 [.buf false .u8 32 p, .pl .nilslice, .buf true .u8 j g]) (d87 [.buf false .u8 32 p, .pl .nilslice, .buf true .u8 j g])).go [true]) = some ([decide (j < 9223372036854775808),(j : Int) != 64,decide (j < 9223372036854775808),(j : Int) != 64], .bool false true):=by kernel_rfl
theorem c0c (G : V) : res ((d81 Tryz.prog qE (deep Tryz.prog qE hWr 100 5) 200 4 (d7z 0 [.pl .nilslice, .empty,G]) (d87 [.pl .nilslice, .empty,G])).go []) = some ([], .bool false true):=by kernel_rfl
theorem c0d (G : V) : res ((d81 Tryz.prog qE (deep Tryz.prog qE hWr 100 5) 200 4 (d7z 0 [.empty, .empty,G]) (d87 [.empty, .empty,G])).go []) = some ([], .bool false true):=by kernel_rfl
theorem b8m (n : Nat) (p : List Int) : res ((d81 Tryz.prog qE (deep Tryz.prog qE hWr 100 5) 200 4 (d7z 0 [.buf true .u8 n p, .empty, .pl .nilslice]) (d87 [.buf true .u8 n p, .empty, .pl .nilslice])).go [true]) = some ([] ++ (decide (n < 9223372036854775808) :: (gP ((n : Int) != 32) ++ [orM ((n : Int) != 32) ((0 : Int) != 64)])) ++ (decide (n < 9223372036854775808) :: (gP ((n : Int) != 32) ++ [orM ((n : Int) != 32) ((0 : Int) != 64)])), .bool false true):=by kernel_rfl
theorem b8n (p : List Int) : res ((d81 Tryz.prog qE (deep Tryz.prog qE hWr 100 5) 200 4 (d7z 0 [.buf false .u8 32 p, .empty, .pl .nilslice]) (d87 [.buf false .u8 32 p, .empty, .pl .nilslice])).go []) = some ([], .bool false true):=by kernel_rfl
theorem b8o (n : Nat) (p : List Int) : res ((d81 Tryz.prog qE (deep Tryz.prog qE hWr 100 5) 200 4 (d7z 0 [.buf true .u8 n p, .empty, .empty]) (d87 [.buf true .u8 n p, .empty, .empty])).go [true]) = some ([] ++ (decide (n < 9223372036854775808) :: (gP ((n : Int) != 32) ++ [orM ((n : Int) != 32) ((0 : Int) != 64)])) ++ (decide (n < 9223372036854775808) :: (gP ((n : Int) != 32) ++ [orM ((n : Int) != 32) ((0 : Int) != 64)])), .bool false true):=by kernel_rfl
theorem b8p (p : List Int) : res ((d81 Tryz.prog qE (deep Tryz.prog qE hWr 100 5) 200 4 (d7z 0 [.buf false .u8 32 p, .empty, .empty]) (d87 [.buf false .u8 32 p, .empty, .empty])).go []) = some ([], .bool false true):=by kernel_rfl
theorem c0e (n : Nat) (p : List Int) (g : List Int) : res ((d81 Tryz.prog qE (deep Tryz.prog qE hWr 100 5) 200 4 (d7z 0 [.buf true .u8 n p, .empty, .buf false .u8 64 g]) (d87 [.buf true .u8 n p, .empty, .buf false .u8 64 g])).go [true]) = some ([] ++ (decide (n < 9223372036854775808) :: (gP ((n : Int) != 32) ++ [orM ((n : Int) != 32) ((64 : Int) != 64)])) ++ (decide (n < 9223372036854775808) :: (gP ((n : Int) != 32) ++ [orM ((n : Int) != 32) ((64 : Int) != 64)])), .bool false true):=by kernel_rfl
theorem c3z (fp : List Int → List Int) (fs : List Int → List Int → List Int) (fv : List Int → List Int → List Int → Bool) (p g : List Int) : res ((d81 Tryz.prog qE (deep Tryz.prog qE (hSg fp fs fv) 100 5) 200 4 (d7z 0 [.buf false .u8 32 p, .empty, .buf false .u8 64 g]) (d87 [.buf false .u8 32 p, .empty, .buf false .u8 64 g])).go [true]) = some ([fv [] p g], .bool true (e4s (fv [] p g) == 0)):=by kernel_rfl
theorem c40 (fp : List Int → List Int) (fs : List Int → List Int → List Int) (fv : List Int → List Int → List Int → Bool) (p g : List Int) : res ((d81 Tryz.prog qE (deep Tryz.prog qE (hSg fp fs fv) 100 5) 200 4 (d7z 0 [.buf false .u8 32 p, .empty, .buf false .u8 64 g]) (d87 [.buf false .u8 32 p, .empty, .buf false .u8 64 g])).go [false]) = some ([!fv [] p g], .bool true (e4s (fv [] p g) == 6)):=by kernel_rfl
theorem b8q (n : Nat) (p : List Int) (j : Nat) (g : List Int) : res ((d81 Tryz.prog qE (deep Tryz.prog qE hWr 100 5) 200 4 (d7z 0 [.buf true .u8 n p, .empty, .buf true .u8 j g]) (d87 [.buf true .u8 n p, .empty, .buf true .u8 j g])).go [true]) = some ([] ++ (decide (n < 9223372036854775808) :: (gB ((n : Int) != 32) j ++ [orM ((n : Int) != 32) ((j : Int) != 64)])) ++ (decide (n < 9223372036854775808) :: (gB ((n : Int) != 32) j ++ [orM ((n : Int) != 32) ((j : Int) != 64)])), .bool false true):=by kernel_rfl
theorem b8r (p : List Int) (j : Nat) (g : List Int) : res ((d81 Tryz.prog qE (deep Tryz.prog qE hWr 100 5) 200 4 (d7z 0 [.buf false .u8 32 p, .empty, .buf true .u8 j g]) (d87 [.buf false .u8 32 p, .empty, .buf true .u8 j g])).go [true]) = some ([decide (j < 9223372036854775808),(j : Int) != 64,decide (j < 9223372036854775808),(j : Int) != 64], .bool false true):=by kernel_rfl
theorem c0f (G : V) (m : Nat) (l : List Int) : res ((d81 Tryz.prog qE (deep Tryz.prog qE hWr 100 5) 200 4 (d7z 0 [.pl .nilslice, .buf true .u8 m l,G]) (d87 [.pl .nilslice, .buf true .u8 m l,G])).go [false]) = some ([decide (m < 9223372036854775808), !decide ((m : Int) > 300)], .bool false true):=by kernel_rfl
theorem c0g (G : V) (m : Nat) (l : List Int) : res ((d81 Tryz.prog qE (deep Tryz.prog qE hWr 100 5) 200 4 (d7z 0 [.empty, .buf true .u8 m l,G]) (d87 [.empty, .buf true .u8 m l,G])).go [false]) = some ([decide (m < 9223372036854775808), !decide ((m : Int) > 300)], .bool false true):=by kernel_rfl
theorem b8s (n : Nat) (p : List Int) (m : Nat) (l : List Int) : res ((d81 Tryz.prog qE (deep Tryz.prog qE hWr 100 5) 200 4 (d7z 0 [.buf true .u8 n p, .buf true .u8 m l, .pl .nilslice]) (d87 [.buf true .u8 n p, .buf true .u8 m l, .pl .nilslice])).go [false,true]) = some ([decide (m < 9223372036854775808), !decide ((m : Int) > 300)] ++ (decide (n < 9223372036854775808) :: (gP ((n : Int) != 32) ++ [orM ((n : Int) != 32) ((0 : Int) != 64)])) ++ (decide (n < 9223372036854775808) :: (gP ((n : Int) != 32) ++ [orM ((n : Int) != 32) ((0 : Int) != 64)])), .bool false true):=by kernel_rfl
theorem b8t (p : List Int) (m : Nat) (l : List Int) : res ((d81 Tryz.prog qE (deep Tryz.prog qE hWr 100 5) 200 4 (d7z 0 [.buf false .u8 32 p, .buf true .u8 m l, .pl .nilslice]) (d87 [.buf false .u8 32 p, .buf true .u8 m l, .pl .nilslice])).go [false]) = some ([decide (m < 9223372036854775808), !decide ((m : Int) > 300)], .bool false true):=by kernel_rfl
theorem b8u (n : Nat) (p : List Int) (m : Nat) (l : List Int) : res ((d81 Tryz.prog qE (deep Tryz.prog qE hWr 100 5) 200 4 (d7z 0 [.buf true .u8 n p, .buf true .u8 m l, .empty]) (d87 [.buf true .u8 n p, .buf true .u8 m l, .empty])).go [false,true]) = some ([decide (m < 9223372036854775808), !decide ((m : Int) > 300)] ++ (decide (n < 9223372036854775808) :: (gP ((n : Int) != 32) ++ [orM ((n : Int) != 32) ((0 : Int) != 64)])) ++ (decide (n < 9223372036854775808) :: (gP ((n : Int) != 32) ++ [orM ((n : Int) != 32) ((0 : Int) != 64)])), .bool false true):=by kernel_rfl
theorem b8v (p : List Int) (m : Nat) (l : List Int) : res ((d81 Tryz.prog qE (deep Tryz.prog qE hWr 100 5) 200 4 (d7z 0 [.buf false .u8 32 p, .buf true .u8 m l, .empty]) (d87 [.buf false .u8 32 p, .buf true .u8 m l, .empty])).go [false]) = some ([decide (m < 9223372036854775808), !decide ((m : Int) > 300)], .bool false true):=by kernel_rfl
theorem c0h (n : Nat) (p : List Int) (g : List Int) (m : Nat) (l : List Int) : res ((d81 Tryz.prog qE (deep Tryz.prog qE hWr 100 5) 200 4 (d7z 0 [.buf true .u8 n p, .buf true .u8 m l, .buf false .u8 64 g]) (d87 [.buf true .u8 n p, .buf true .u8 m l, .buf false .u8 64 g])).go [false,true]) = some ([decide (m < 9223372036854775808), !decide ((m : Int) > 300)] ++ (decide (n < 9223372036854775808) :: (gP ((n : Int) != 32) ++ [orM ((n : Int) != 32) ((64 : Int) != 64)])) ++ (decide (n < 9223372036854775808) :: (gP ((n : Int) != 32) ++ [orM ((n : Int) != 32) ((64 : Int) != 64)])), .bool false true):=by kernel_rfl
theorem c41 (fp : List Int → List Int) (fs : List Int → List Int → List Int) (fv : List Int → List Int → List Int → Bool) (p g : List Int) (m : Nat) (l : List Int) : res ((d81 Tryz.prog qE (deep Tryz.prog qE (hSg fp fs fv) 100 5) 200 4 (d7z 0 [.buf false .u8 32 p, .buf true .u8 m l, .buf false .u8 64 g]) (d87 [.buf false .u8 32 p, .buf true .u8 m l, .buf false .u8 64 g])).go [false,true]) = some ([decide (m < 9223372036854775808), !decide ((m : Int) > 300),decide (0 + m ≤ m),decide (m < 9223372036854775808),decide (0 + m ≤ m),decide (m ≤ 1000),fv ((l.drop 0).take m) p g], .bool true (e4s (fv ((l.drop 0).take m) p g) == 0)):=by kernel_rfl
theorem c42 (fp : List Int → List Int) (fs : List Int → List Int → List Int) (fv : List Int → List Int → List Int → Bool) (p g : List Int) (m : Nat) (l : List Int) : res ((d81 Tryz.prog qE (deep Tryz.prog qE (hSg fp fs fv) 100 5) 200 4 (d7z 0 [.buf false .u8 32 p, .buf true .u8 m l, .buf false .u8 64 g]) (d87 [.buf false .u8 32 p, .buf true .u8 m l, .buf false .u8 64 g])).go [false,false]) = some ([decide (m < 9223372036854775808), !decide ((m : Int) > 300),decide (0 + m ≤ m),decide (m < 9223372036854775808),decide (0 + m ≤ m),decide (m ≤ 1000), !fv ((l.drop 0).take m) p g], .bool true (e4s (fv ((l.drop 0).take m) p g) == 6)):=by kernel_rfl
theorem b8w (n : Nat) (p : List Int) (j : Nat) (g : List Int) (m : Nat) (l : List Int) : res ((d81 Tryz.prog qE (deep Tryz.prog qE hWr 100 5) 200 4 (d7z 0 [.buf true .u8 n p, .buf true .u8 m l, .buf true .u8 j g]) (d87 [.buf true .u8 n p, .buf true .u8 m l, .buf true .u8 j g])).go [false,true]) = some ([decide (m < 9223372036854775808), !decide ((m : Int) > 300)] ++ (decide (n < 9223372036854775808) :: (gB ((n : Int) != 32) j ++ [orM ((n : Int) != 32) ((j : Int) != 64)])) ++ (decide (n < 9223372036854775808) :: (gB ((n : Int) != 32) j ++ [orM ((n : Int) != 32) ((j : Int) != 64)])), .bool false true):=by kernel_rfl
theorem b8x (p : List Int) (j : Nat) (g : List Int) (m : Nat) (l : List Int) : res ((d81 Tryz.prog qE (deep Tryz.prog qE hWr 100 5) 200 4 (d7z 0 [.buf false .u8 32 p, .buf true .u8 m l, .buf true .u8 j g]) (d87 [.buf false .u8 32 p, .buf true .u8 m l, .buf true .u8 j g])).go [false,true]) = some ([decide (m < 9223372036854775808), !decide ((m : Int) > 300),decide (j < 9223372036854775808),(j : Int) != 64,decide (j < 9223372036854775808),(j : Int) != 64], .bool false true):=by kernel_rfl
theorem a4i {va vb vc : Value} (W : World) (hT : e4r W) (ha : (va = .slice none 0 0 ∨ ∃ (a : Addr) (len cap : Nat) (zs : List Int),va = .slice (some a) len cap ∧ len ≤ cap ∧ cap ≤ maxLen ∧ zs.length = cap ∧ (∀ i,i < zs.length → W.cell? (a.add i) = some (.int .u8 (zs.getD i 0))) ∧ ∀ n ∈ zs,inR .u8 n = true)) (hb : (vb = .slice none 0 0 ∨ ∃ (a : Addr) (len cap : Nat) (zs : List Int),vb = .slice (some a) len cap ∧ len ≤ cap ∧ cap ≤ maxLen ∧ zs.length = cap ∧ (∀ i,i < zs.length → W.cell? (a.add i) = some (.int .u8 (zs.getD i 0))) ∧ ∀ n ∈ zs,inR .u8 n = true)) (hc : (vc = .slice none 0 0 ∨ ∃ (a : Addr) (len cap : Nat) (zs : List Int),vc = .slice (some a) len cap ∧ len ≤ cap ∧ cap ≤ maxLen ∧ zs.length = cap ∧ (∀ i,i < zs.length → W.cell? (a.add i) = some (.int .u8 (zs.getD i 0))) ∧ ∀ n ∈ zs,inR .u8 n = true)) :
  Calls Tryz.prog 4 #[va,vb,vc] W (fun e w'=>e = .returned (.bool true) ∧ Below W.heap.size W w'):=by
 have D:=c7z.deep (q:=qE) mixed d7w 100 5
 have E:=c7y.deep (q:=qE) mixed d7w 100 5
 rcases a9e 1 hb with g | g | ⟨m,q,hm,g⟩
 ·rcases a3l 0 ha with h | h | ⟨n,p,h1,h2,h⟩ | ⟨p,op,h⟩
  ·obtain ⟨G,wG,gG⟩:=a2r 2 hc
   exact a05 mixed D [] (c09 G) d7x.nil rfl (.cons _ _ _ _ _ h (.cons _ _ _ _ _ g (.cons _ _ _ _ _ gG (.nil _)))) (by show noW (_ :: _ :: G :: _) = true;show noW (G :: _) = true;rw [b01 wG];rfl)
  ·obtain ⟨G,wG,gG⟩:=a2r 2 hc
   exact a05 mixed D [] (c0a G) d7x.nil rfl (.cons _ _ _ _ _ h (.cons _ _ _ _ _ g (.cons _ _ _ _ _ gG (.nil _)))) (by show noW (_ :: _ :: G :: _) = true;show noW (G :: _) = true;rw [b01 wG];rfl)
  ·have e : ((n : Int) != 32) = true:=by simpa using h2
   have k:=decide_eq_true h1
   rcases e2t 2 hc with f | f | ⟨j,t,k1,k2,f⟩ | ⟨t,ot,f⟩
   ·exact a05 mixed D [true] (b8g n p) (by exact a01.2 ⟨a01.2 ⟨List.all_eq_true.1 rfl,a00 k (a01.2 ⟨a1i,a00 (by rw [e];rfl) d7x.nil⟩)⟩,a00 k (a01.2 ⟨a1i,a00 (by rw [e];rfl) d7x.nil⟩)⟩) rfl (.cons _ _ _ _ _ h (.cons _ _ _ _ _ g (.cons _ _ _ _ _ f (.nil _))))
   ·exact a05 mixed D [true] (b8i n p) (by exact a01.2 ⟨a01.2 ⟨List.all_eq_true.1 rfl,a00 k (a01.2 ⟨a1i,a00 (by rw [e];rfl) d7x.nil⟩)⟩,a00 k (a01.2 ⟨a1i,a00 (by rw [e];rfl) d7x.nil⟩)⟩) rfl (.cons _ _ _ _ _ h (.cons _ _ _ _ _ g (.cons _ _ _ _ _ f (.nil _))))
   ·exact a05 mixed D [true] (b8k n p j t) (by exact a01.2 ⟨a01.2 ⟨List.all_eq_true.1 rfl,a00 k (a01.2 ⟨a6z k1,a00 (by rw [e];rfl) d7x.nil⟩)⟩,a00 k (a01.2 ⟨a6z k1,a00 (by rw [e];rfl) d7x.nil⟩)⟩) rfl (.cons _ _ _ _ _ h (.cons _ _ _ _ _ g (.cons _ _ _ _ _ f (.nil _))))
   ·exact a05 mixed D [true] (c0b n p t) (by exact a01.2 ⟨a01.2 ⟨List.all_eq_true.1 rfl,a00 k (a01.2 ⟨a1i,a00 (by rw [e];rfl) d7x.nil⟩)⟩,a00 k (a01.2 ⟨a1i,a00 (by rw [e];rfl) d7x.nil⟩)⟩) rfl (.cons _ _ _ _ _ h (.cons _ _ _ _ _ g (.cons _ _ _ _ _ f (.nil _))))
  ·rcases e2t 2 hc with f | f | ⟨j,t,k1,k2,f⟩ | ⟨t,ot,f⟩
   ·exact a05 mixed D [] (b8h p) d7x.nil rfl (.cons _ _ _ _ _ h (.cons _ _ _ _ _ g (.cons _ _ _ _ _ f (.nil _))))
   ·exact a05 mixed D [] (b8j p) d7x.nil rfl (.cons _ _ _ _ _ h (.cons _ _ _ _ _ g (.cons _ _ _ _ _ f (.nil _))))
   ·have e : ((j : Int) != 64) = true:=by simpa using k2
    exact a05 mixed D [true] (b8l p j t) (by rw [e,decide_eq_true k1];exact List.all_eq_true.1 rfl) rfl (.cons _ _ _ _ _ h (.cons _ _ _ _ _ g (.cons _ _ _ _ _ f (.nil _))))
   ·cases hv : fvB [] p t with
    | true=>exact a05 mixed E [true] (c3x e1f fsB fvB p t) (by rw [hv];exact List.all_eq_true.1 rfl) (by rw [hv];rfl) (.cons _ _ _ _ _ h (.cons _ _ _ _ _ g (.cons _ _ _ _ _ f (.nil _))))
    | false=>exact a05 mixed E [false] (c3y e1f fsB fvB p t) (by rw [hv];exact List.all_eq_true.1 rfl) (by rw [hv];rfl) (.cons _ _ _ _ _ h (.cons _ _ _ _ _ g (.cons _ _ _ _ _ f (.nil _))))
 ·rcases a3l 0 ha with h | h | ⟨n,p,h1,h2,h⟩ | ⟨p,op,h⟩
  ·obtain ⟨G,wG,gG⟩:=a2r 2 hc
   exact a05 mixed D [] (c0c G) d7x.nil rfl (.cons _ _ _ _ _ h (.cons _ _ _ _ _ g (.cons _ _ _ _ _ gG (.nil _)))) (by show noW (_ :: _ :: G :: _) = true;show noW (G :: _) = true;rw [b01 wG];rfl)
  ·obtain ⟨G,wG,gG⟩:=a2r 2 hc
   exact a05 mixed D [] (c0d G) d7x.nil rfl (.cons _ _ _ _ _ h (.cons _ _ _ _ _ g (.cons _ _ _ _ _ gG (.nil _)))) (by show noW (_ :: _ :: G :: _) = true;show noW (G :: _) = true;rw [b01 wG];rfl)
  ·have e : ((n : Int) != 32) = true:=by simpa using h2
   have k:=decide_eq_true h1
   rcases e2t 2 hc with f | f | ⟨j,t,k1,k2,f⟩ | ⟨t,ot,f⟩
   ·exact a05 mixed D [true] (b8m n p) (by exact a01.2 ⟨a01.2 ⟨List.all_eq_true.1 rfl,a00 k (a01.2 ⟨a1i,a00 (by rw [e];rfl) d7x.nil⟩)⟩,a00 k (a01.2 ⟨a1i,a00 (by rw [e];rfl) d7x.nil⟩)⟩) rfl (.cons _ _ _ _ _ h (.cons _ _ _ _ _ g (.cons _ _ _ _ _ f (.nil _))))
   ·exact a05 mixed D [true] (b8o n p) (by exact a01.2 ⟨a01.2 ⟨List.all_eq_true.1 rfl,a00 k (a01.2 ⟨a1i,a00 (by rw [e];rfl) d7x.nil⟩)⟩,a00 k (a01.2 ⟨a1i,a00 (by rw [e];rfl) d7x.nil⟩)⟩) rfl (.cons _ _ _ _ _ h (.cons _ _ _ _ _ g (.cons _ _ _ _ _ f (.nil _))))
   ·exact a05 mixed D [true] (b8q n p j t) (by exact a01.2 ⟨a01.2 ⟨List.all_eq_true.1 rfl,a00 k (a01.2 ⟨a6z k1,a00 (by rw [e];rfl) d7x.nil⟩)⟩,a00 k (a01.2 ⟨a6z k1,a00 (by rw [e];rfl) d7x.nil⟩)⟩) rfl (.cons _ _ _ _ _ h (.cons _ _ _ _ _ g (.cons _ _ _ _ _ f (.nil _))))
   ·exact a05 mixed D [true] (c0e n p t) (by exact a01.2 ⟨a01.2 ⟨List.all_eq_true.1 rfl,a00 k (a01.2 ⟨a1i,a00 (by rw [e];rfl) d7x.nil⟩)⟩,a00 k (a01.2 ⟨a1i,a00 (by rw [e];rfl) d7x.nil⟩)⟩) rfl (.cons _ _ _ _ _ h (.cons _ _ _ _ _ g (.cons _ _ _ _ _ f (.nil _))))
  ·rcases e2t 2 hc with f | f | ⟨j,t,k1,k2,f⟩ | ⟨t,ot,f⟩
   ·exact a05 mixed D [] (b8n p) d7x.nil rfl (.cons _ _ _ _ _ h (.cons _ _ _ _ _ g (.cons _ _ _ _ _ f (.nil _))))
   ·exact a05 mixed D [] (b8p p) d7x.nil rfl (.cons _ _ _ _ _ h (.cons _ _ _ _ _ g (.cons _ _ _ _ _ f (.nil _))))
   ·have e : ((j : Int) != 64) = true:=by simpa using k2
    exact a05 mixed D [true] (b8r p j t) (by rw [e,decide_eq_true k1];exact List.all_eq_true.1 rfl) rfl (.cons _ _ _ _ _ h (.cons _ _ _ _ _ g (.cons _ _ _ _ _ f (.nil _))))
   ·cases hv : fvB [] p t with
    | true=>exact a05 mixed E [true] (c3z e1f fsB fvB p t) (by rw [hv];exact List.all_eq_true.1 rfl) (by rw [hv];rfl) (.cons _ _ _ _ _ h (.cons _ _ _ _ _ g (.cons _ _ _ _ _ f (.nil _))))
    | false=>exact a05 mixed E [false] (c40 e1f fsB fvB p t) (by rw [hv];exact List.all_eq_true.1 rfl) (by rw [hv];rfl) (.cons _ _ _ _ _ h (.cons _ _ _ _ _ g (.cons _ _ _ _ _ f (.nil _))))
 ·by_cases hl : (m : Int) > 300
  ·obtain ⟨S,wS,gS⟩:=a2r 0 ha
   obtain ⟨G,wG,gG⟩:=a2r 2 hc
   exact a05 mixed D [true] (c96 S G m q) (a00 (decide_eq_true hm) (a00 (decide_eq_true hl) d7x.nil)) rfl (.cons _ _ _ _ _ gS (.cons _ _ _ _ _ g (.cons _ _ _ _ _ gG (.nil _)))) (by show noW (S :: _ :: G :: _) = true;rw [b01 wS];show noW (G :: _) = true;rw [b01 wG];rfl)
  ·have a:=decide_eq_true hm
   have b:=decide_eq_false hl
   have c : decide (0 + m ≤ m) = true:=decide_eq_true (by omega)
   have c2 : decide (m ≤ 1000) = true:=decide_eq_true (by omega)
   rcases a3l 0 ha with h | h | ⟨n,p,h1,h2,h⟩ | ⟨p,op,h⟩
   ·obtain ⟨G,wG,gG⟩:=a2r 2 hc
    exact a05 mixed D [false] (c0f G m q) (by rw [a,b];exact List.all_eq_true.1 rfl) rfl (.cons _ _ _ _ _ h (.cons _ _ _ _ _ g (.cons _ _ _ _ _ gG (.nil _)))) (by show noW (_ :: _ :: G :: _) = true;show noW (G :: _) = true;rw [b01 wG];rfl)
   ·obtain ⟨G,wG,gG⟩:=a2r 2 hc
    exact a05 mixed D [false] (c0g G m q) (by rw [a,b];exact List.all_eq_true.1 rfl) rfl (.cons _ _ _ _ _ h (.cons _ _ _ _ _ g (.cons _ _ _ _ _ gG (.nil _)))) (by show noW (_ :: _ :: G :: _) = true;show noW (G :: _) = true;rw [b01 wG];rfl)
   ·have e : ((n : Int) != 32) = true:=by simpa using h2
    have k:=decide_eq_true h1
    rcases e2t 2 hc with f | f | ⟨j,t,k1,k2,f⟩ | ⟨t,ot,f⟩
    ·exact a05 mixed D [false,true] (b8s n p m q) (by rw [a,b];exact a01.2 ⟨a01.2 ⟨List.all_eq_true.1 rfl,a00 k (a01.2 ⟨a1i,a00 (by rw [e];rfl) d7x.nil⟩)⟩,a00 k (a01.2 ⟨a1i,a00 (by rw [e];rfl) d7x.nil⟩)⟩) rfl (.cons _ _ _ _ _ h (.cons _ _ _ _ _ g (.cons _ _ _ _ _ f (.nil _))))
    ·exact a05 mixed D [false,true] (b8u n p m q) (by rw [a,b];exact a01.2 ⟨a01.2 ⟨List.all_eq_true.1 rfl,a00 k (a01.2 ⟨a1i,a00 (by rw [e];rfl) d7x.nil⟩)⟩,a00 k (a01.2 ⟨a1i,a00 (by rw [e];rfl) d7x.nil⟩)⟩) rfl (.cons _ _ _ _ _ h (.cons _ _ _ _ _ g (.cons _ _ _ _ _ f (.nil _))))
    ·exact a05 mixed D [false,true] (b8w n p j t m q) (by rw [a,b];exact a01.2 ⟨a01.2 ⟨List.all_eq_true.1 rfl,a00 k (a01.2 ⟨a6z k1,a00 (by rw [e];rfl) d7x.nil⟩)⟩,a00 k (a01.2 ⟨a6z k1,a00 (by rw [e];rfl) d7x.nil⟩)⟩) rfl (.cons _ _ _ _ _ h (.cons _ _ _ _ _ g (.cons _ _ _ _ _ f (.nil _))))
    ·exact a05 mixed D [false,true] (c0h n p t m q) (by rw [a,b];exact a01.2 ⟨a01.2 ⟨List.all_eq_true.1 rfl,a00 k (a01.2 ⟨a1i,a00 (by rw [e];rfl) d7x.nil⟩)⟩,a00 k (a01.2 ⟨a1i,a00 (by rw [e];rfl) d7x.nil⟩)⟩) rfl (.cons _ _ _ _ _ h (.cons _ _ _ _ _ g (.cons _ _ _ _ _ f (.nil _))))
   ·rcases e2t 2 hc with f | f | ⟨j,t,k1,k2,f⟩ | ⟨t,ot,f⟩
    ·exact a05 mixed D [false] (b8t p m q) (by rw [a,b];exact List.all_eq_true.1 rfl) rfl (.cons _ _ _ _ _ h (.cons _ _ _ _ _ g (.cons _ _ _ _ _ f (.nil _))))
    ·exact a05 mixed D [false] (b8v p m q) (by rw [a,b];exact List.all_eq_true.1 rfl) rfl (.cons _ _ _ _ _ h (.cons _ _ _ _ _ g (.cons _ _ _ _ _ f (.nil _))))
    ·have e : ((j : Int) != 64) = true:=by simpa using k2
     exact a05 mixed D [false,true] (b8x p j t m q) (by rw [a,b,e,decide_eq_true k1];exact List.all_eq_true.1 rfl) rfl (.cons _ _ _ _ _ h (.cons _ _ _ _ _ g (.cons _ _ _ _ _ f (.nil _))))
    ·cases hv : fvB ((q.drop 0).take m) p t with
     | true=>exact a05 mixed E [false,true] (c41 e1f fsB fvB p t m q) (by rw [a,b,c,c2,hv];exact List.all_eq_true.1 rfl) (by rw [hv];rfl) (.cons _ _ _ _ _ h (.cons _ _ _ _ _ g (.cons _ _ _ _ _ f (.nil _))))
     | false=>exact a05 mixed E [false,false] (c42 e1f fsB fvB p t m q) (by rw [a,b,c,c2,hv];exact List.all_eq_true.1 rfl) (by rw [hv];rfl) (.cons _ _ _ _ _ h (.cons _ _ _ _ _ g (.cons _ _ _ _ _ f (.nil _))))
theorem a4h (os : Os) (started : os.Started) (H : Type) (enc : TypeId × Value → H) :
  ReturnsInHanded {} Tryz.checked os 4 .any (fun w args=>(Rows.edwardsVerifiesSpec.pre enc Tryz.prog Tryz.f4 Rows.edwardsVerifiesRow.domain false w args ∧ laidMetH Tryz.prog Rows.edwardsSignsRow.laid w) ∧ sizedMet enc Tryz.prog Tryz.f4 (OpenSpec.ofChange Rows.edwardsVerifiesSpec) false w args)
   (Rows.edwardsVerifiesSpec.post enc Tryz.prog Tryz.f4 false true false false):=by
 refine returnsInHanded_of_change_and (C:=Tryz.checked) (X:=fun w _=>laidMetH Tryz.prog Rows.edwardsSignsRow.laid w) (fun _ _ _ hh h=>h.of_heap hh) own started (by kernel_rfl) Tryz.func4
  (ChangeSpec.witness_shaped (enc:=enc) (C:=Tryz.checked) (os:=os) (X:=fun w _=>laidMetH Tryz.prog Rows.edwardsSignsRow.laid w) false (World.laidAll Tryz.prog os Rows.edwardsSignsRow.laid) #[.slice none 0 0, .slice none 0 0, .slice none 0 0] 8 (World.laidAll_os _ _ _)
   (World.shaped_of_ZipB (by kernel_rfl) (by kernel_rfl)) (by kernel_rfl) (by kernel_rfl) (by kernel_rfl)
   (by rw [MakeChecks.laidMetH_plain _ _ _ (by kernel_rfl)];exact laidMet_laidAll _ (by kernel_rfl) (by kernel_rfl))) ?_
 intro W base args ds gs before hval0 hW _ hsz hL _
 have hT : e4r W:=c1a hL
 have hval : ∀ (j : Nat) t v,Tryz.f4.params[j]? = some t → args[j]? = some v → Value.okWide Tryz.prog W .any base t v:=hval0
 have hW':=hW
 obtain ⟨p,q,hA0,hV,rfl,hfz,hnd⟩:=hW
 have hA : DataW.TrodAll enc Tryz.prog W 0 (fun _=>true) true Tryz.f4.params.toList args.toList ds p:=hA0
 rw [Tryz.params4] at hA hval
 obtain ⟨v0,v1,v2,d0,d1,d2,p0,p1,p2,hargs,rfl,rfl,g0,g1,g2⟩:=trodAll_three hA
 have hargs' : args = #[v0,v1,v2]:=by simpa using hargs
 subst hargs'
 obtain ⟨rfl,rfl⟩:=trodVars_none hV
 have hv0:=a4o Tryz.underlying22 Tryz.underlying5 (by kernel_rfl) (hval 0 _ v0 rfl rfl) g0
 have hv1:=a4o Tryz.underlying22 Tryz.underlying5 (by kernel_rfl) (hval 1 _ v1 rfl rfl) g1
 have hv2:=a4o Tryz.underlying22 Tryz.underlying5 (by kernel_rfl) (hval 2 _ v2 rfl rfl) g2
 refine (a4i W hT hv0 hv1 hv2).mono fun e W' ⟨he,hb⟩ => ?_
 exact ⟨_,he,a8a laidOut (by rw [Tryz.params4];decide +kernel) hW' rfl rfl Tryz.underlying4 rfl rfl rfl hb⟩
theorem a4j : Rows.EdwardsVerifiesSaid:=
 OpenClaim.holds_of_wide 4 Tryz.f4 rfl rfl rfl rfl rfl rfl rfl ⟨rfl,rfl,rfl,rfl,rfl⟩ rfl rfl rfl rfl rfl (by kernel_rfl) Tryz.func4 (by kernel_rfl)
  (f9c (by kernel_rfl)) (by unfold Func.isWrapper;first | (rw [if_pos (by decide +kernel)];kernel_rfl) | (rw [if_neg (by decide +kernel)];exact ⟨rfl,rfl⟩))
  (fun os started H enc _=>a4h os started H enc)
theorem edwardsVerifies_card_holds : Rows.EdwardsVerifiesCardSaid:=
 Claim7.holds_tied_plain_at .later [] [.data, .data, .data, .data, .data, .data, .data, .data, .data] true (true, "2375ae646ccb3ad39d72f72b8e275e06d3215f4fb8771aedc81610c8f84a4c9e") false a4j (fun _ h => by cases h) (by kernel_rfl) (fun _ h => by cases h) edwardsVerifies_row_tie rfl ⟨rfl, rfl⟩ (by kernel_rfl) rfl
  (fun f fn hf hfn=>by
   obtain rfl : f = 4:=Option.some.inj (hf.symm.trans (by kernel_rfl))
   obtain rfl : fn = Tryz.f4:=(Option.some.inj (Tryz.func4.symm.trans hfn)).symm
   exact ⟨by kernel_rfl,fun j t ht=>by
    rw [Tryz.params4] at ht
    have hm : t ∈ [22,22,22]:=by simpa using Array.mem_of_getElem? ht
    have hall : ([22,22,22].all fun u=>!Tryz.prog.wantsStandIn u) = true:=by kernel_rfl
    exact (show Tryz.prog.wantsStandIn t = false by simpa using List.all_eq_true.1 hall t hm)⟩)
  (by kernel_rfl)
end Go.Proofs.YthelmpjkkkhopaaGreatDoor

/- SHA-256 of 'a' and 32 zeros, word by word, step by step -/
import Derived.Test.YtcedecljbgailaaDoorDgy
namespace Go.Proofs.YtcedecljbgailaaDoor.Dg
def a33L : List (BitVec 8) := [97#8] ++ List.replicate 32 0#8
theorem a33_pad : pad a33L = [97#8, 0#8, 0#8, 0#8, 0#8, 0#8, 0#8, 0#8, 0#8, 0#8, 0#8, 0#8, 0#8, 0#8, 0#8, 0#8, 0#8, 0#8, 0#8, 0#8, 0#8, 0#8, 0#8, 0#8, 0#8, 0#8, 0#8, 0#8, 0#8, 0#8, 0#8, 0#8, 0#8, 128#8, 0#8, 0#8, 0#8, 0#8, 0#8, 0#8, 0#8, 0#8, 0#8, 0#8, 0#8, 0#8, 0#8, 0#8, 0#8, 0#8, 0#8, 0#8, 0#8, 0#8, 0#8, 0#8, 0#8, 0#8, 0#8, 0#8, 0#8, 0#8, 1#8, 8#8] := by decide +kernel
def a33M : Nat → BitVec 32 := blk [97#8, 0#8, 0#8, 0#8, 0#8, 0#8, 0#8, 0#8, 0#8, 0#8, 0#8, 0#8, 0#8, 0#8, 0#8, 0#8, 0#8, 0#8, 0#8, 0#8, 0#8, 0#8, 0#8, 0#8, 0#8, 0#8, 0#8, 0#8, 0#8, 0#8, 0#8, 0#8, 0#8, 128#8, 0#8, 0#8, 0#8, 0#8, 0#8, 0#8, 0#8, 0#8, 0#8, 0#8, 0#8, 0#8, 0#8, 0#8, 0#8, 0#8, 0#8, 0#8, 0#8, 0#8, 0#8, 0#8, 0#8, 0#8, 0#8, 0#8, 0#8, 0#8, 1#8, 8#8] 0
theorem a33_w0 : sch a33M 0 = 1627389952#32 := by rw [sch_lo _ (by omega)]; decide +kernel
theorem a33_w1 : sch a33M 1 = 0#32 := by rw [sch_lo _ (by omega)]; decide +kernel
theorem a33_w2 : sch a33M 2 = 0#32 := by rw [sch_lo _ (by omega)]; decide +kernel
theorem a33_w3 : sch a33M 3 = 0#32 := by rw [sch_lo _ (by omega)]; decide +kernel
theorem a33_w4 : sch a33M 4 = 0#32 := by rw [sch_lo _ (by omega)]; decide +kernel
theorem a33_w5 : sch a33M 5 = 0#32 := by rw [sch_lo _ (by omega)]; decide +kernel
theorem a33_w6 : sch a33M 6 = 0#32 := by rw [sch_lo _ (by omega)]; decide +kernel
theorem a33_w7 : sch a33M 7 = 0#32 := by rw [sch_lo _ (by omega)]; decide +kernel
theorem a33_w8 : sch a33M 8 = 8388608#32 := by rw [sch_lo _ (by omega)]; decide +kernel
theorem a33_w9 : sch a33M 9 = 0#32 := by rw [sch_lo _ (by omega)]; decide +kernel
theorem a33_w10 : sch a33M 10 = 0#32 := by rw [sch_lo _ (by omega)]; decide +kernel
theorem a33_w11 : sch a33M 11 = 0#32 := by rw [sch_lo _ (by omega)]; decide +kernel
theorem a33_w12 : sch a33M 12 = 0#32 := by rw [sch_lo _ (by omega)]; decide +kernel
theorem a33_w13 : sch a33M 13 = 0#32 := by rw [sch_lo _ (by omega)]; decide +kernel
theorem a33_w14 : sch a33M 14 = 0#32 := by rw [sch_lo _ (by omega)]; decide +kernel
theorem a33_w15 : sch a33M 15 = 264#32 := by rw [sch_lo _ (by omega)]; decide +kernel
theorem a33_w16 : sch a33M 16 = 1627389952#32 := by rw [sch_hi _ (by omega), show 16 - 2 = 14 from rfl, show 16 - 7 = 9 from rfl, show 16 - 15 = 1 from rfl, show 16 - 16 = 0 from rfl, a33_w14, a33_w9, a33_w1, a33_w0]; decide +kernel
theorem a33_w17 : sch a33M 17 = 10813440#32 := by rw [sch_hi _ (by omega), show 17 - 2 = 15 from rfl, show 17 - 7 = 10 from rfl, show 17 - 15 = 2 from rfl, show 17 - 16 = 1 from rfl, a33_w15, a33_w10, a33_w2, a33_w1]; decide +kernel
theorem a33_w18 : sch a33M 18 = 1604768#32 := by rw [sch_hi _ (by omega), show 18 - 2 = 16 from rfl, show 18 - 7 = 11 from rfl, show 18 - 15 = 3 from rfl, show 18 - 16 = 2 from rfl, a33_w16, a33_w11, a33_w3, a33_w2]; decide +kernel
theorem a33_w19 : sch a33M 19 = 536881414#32 := by rw [sch_hi _ (by omega), show 19 - 2 = 17 from rfl, show 19 - 7 = 12 from rfl, show 19 - 15 = 4 from rfl, show 19 - 16 = 3 from rfl, a33_w17, a33_w12, a33_w4, a33_w3]; decide +kernel
theorem a33_w20 : sch a33M 20 = 834930192#32 := by rw [sch_hi _ (by omega), show 20 - 2 = 18 from rfl, show 20 - 7 = 13 from rfl, show 20 - 15 = 5 from rfl, show 20 - 16 = 4 from rfl, a33_w18, a33_w13, a33_w5, a33_w4]; decide +kernel
theorem a33_w21 : sch a33M 21 = 296473610#32 := by rw [sch_hi _ (by omega), show 21 - 2 = 19 from rfl, show 21 - 7 = 14 from rfl, show 21 - 15 = 6 from rfl, show 21 - 16 = 5 from rfl, a33_w19, a33_w14, a33_w6, a33_w5]; decide +kernel
theorem a33_w22 : sch a33M 22 = 2210820323#32 := by rw [sch_hi _ (by omega), show 22 - 2 = 20 from rfl, show 22 - 7 = 15 from rfl, show 22 - 15 = 7 from rfl, show 22 - 16 = 6 from rfl, a33_w20, a33_w15, a33_w7, a33_w6]; decide +kernel
theorem a33_w23 : sch a33M 23 = 4052820021#32 := by rw [sch_hi _ (by omega), show 23 - 2 = 21 from rfl, show 23 - 7 = 16 from rfl, show 23 - 15 = 8 from rfl, show 23 - 16 = 7 from rfl, a33_w21, a33_w16, a33_w8, a33_w7]; decide +kernel
theorem a33_w24 : sch a33M 24 = 4151459847#32 := by rw [sch_hi _ (by omega), show 24 - 2 = 22 from rfl, show 24 - 7 = 17 from rfl, show 24 - 15 = 9 from rfl, show 24 - 16 = 8 from rfl, a33_w22, a33_w17, a33_w9, a33_w8]; decide +kernel
theorem a33_w25 : sch a33M 25 = 3023609682#32 := by rw [sch_hi _ (by omega), show 25 - 2 = 23 from rfl, show 25 - 7 = 18 from rfl, show 25 - 15 = 10 from rfl, show 25 - 16 = 9 from rfl, a33_w23, a33_w18, a33_w10, a33_w9]; decide +kernel
theorem a33_w26 : sch a33M 26 = 2285830861#32 := by rw [sch_hi _ (by omega), show 26 - 2 = 24 from rfl, show 26 - 7 = 19 from rfl, show 26 - 15 = 11 from rfl, show 26 - 16 = 10 from rfl, a33_w24, a33_w19, a33_w11, a33_w10]; decide +kernel
theorem a33_w27 : sch a33M 27 = 2385643724#32 := by rw [sch_hi _ (by omega), show 27 - 2 = 25 from rfl, show 27 - 7 = 20 from rfl, show 27 - 15 = 12 from rfl, show 27 - 16 = 11 from rfl, a33_w25, a33_w20, a33_w12, a33_w11]; decide +kernel
theorem a33_w28 : sch a33M 28 = 1925795554#32 := by rw [sch_hi _ (by omega), show 28 - 2 = 26 from rfl, show 28 - 7 = 21 from rfl, show 28 - 15 = 13 from rfl, show 28 - 16 = 12 from rfl, a33_w26, a33_w21, a33_w13, a33_w12]; decide +kernel
theorem a33_w29 : sch a33M 29 = 3374500672#32 := by rw [sch_hi _ (by omega), show 29 - 2 = 27 from rfl, show 29 - 7 = 22 from rfl, show 29 - 15 = 14 from rfl, show 29 - 16 = 13 from rfl, a33_w27, a33_w22, a33_w14, a33_w13]; decide +kernel
theorem a33_w30 : sch a33M 30 = 2424628678#32 := by rw [sch_hi _ (by omega), show 30 - 2 = 28 from rfl, show 30 - 7 = 23 from rfl, show 30 - 15 = 15 from rfl, show 30 - 16 = 14 from rfl, a33_w28, a33_w23, a33_w15, a33_w14]; decide +kernel
theorem a33_w31 : sch a33M 31 = 1095667286#32 := by rw [sch_hi _ (by omega), show 31 - 2 = 29 from rfl, show 31 - 7 = 24 from rfl, show 31 - 15 = 16 from rfl, show 31 - 16 = 15 from rfl, a33_w29, a33_w24, a33_w16, a33_w15]; decide +kernel
theorem a33_w32 : sch a33M 32 = 1137591526#32 := by rw [sch_hi _ (by omega), show 32 - 2 = 30 from rfl, show 32 - 7 = 25 from rfl, show 32 - 15 = 17 from rfl, show 32 - 16 = 16 from rfl, a33_w30, a33_w25, a33_w17, a33_w16]; decide +kernel
theorem a33_w33 : sch a33M 33 = 2130771301#32 := by rw [sch_hi _ (by omega), show 33 - 2 = 31 from rfl, show 33 - 7 = 26 from rfl, show 33 - 15 = 18 from rfl, show 33 - 16 = 17 from rfl, a33_w31, a33_w26, a33_w18, a33_w17]; decide +kernel
theorem a33_w34 : sch a33M 34 = 2068524269#32 := by rw [sch_hi _ (by omega), show 34 - 2 = 32 from rfl, show 34 - 7 = 27 from rfl, show 34 - 15 = 19 from rfl, show 34 - 16 = 18 from rfl, a33_w32, a33_w27, a33_w19, a33_w18]; decide +kernel
theorem a33_w35 : sch a33M 35 = 464145670#32 := by rw [sch_hi _ (by omega), show 35 - 2 = 33 from rfl, show 35 - 7 = 28 from rfl, show 35 - 15 = 20 from rfl, show 35 - 16 = 19 from rfl, a33_w33, a33_w28, a33_w20, a33_w19]; decide +kernel
theorem a33_w36 : sch a33M 36 = 3522247322#32 := by rw [sch_hi _ (by omega), show 36 - 2 = 34 from rfl, show 36 - 7 = 29 from rfl, show 36 - 15 = 21 from rfl, show 36 - 16 = 20 from rfl, a33_w34, a33_w29, a33_w21, a33_w20]; decide +kernel
theorem a33_w37 : sch a33M 37 = 1553825807#32 := by rw [sch_hi _ (by omega), show 37 - 2 = 35 from rfl, show 37 - 7 = 30 from rfl, show 37 - 15 = 22 from rfl, show 37 - 16 = 21 from rfl, a33_w35, a33_w30, a33_w22, a33_w21]; decide +kernel
theorem a33_w38 : sch a33M 38 = 3172714467#32 := by rw [sch_hi _ (by omega), show 38 - 2 = 36 from rfl, show 38 - 7 = 31 from rfl, show 38 - 15 = 23 from rfl, show 38 - 16 = 22 from rfl, a33_w36, a33_w31, a33_w23, a33_w22]; decide +kernel
theorem a33_w39 : sch a33M 39 = 645011764#32 := by rw [sch_hi _ (by omega), show 39 - 2 = 37 from rfl, show 39 - 7 = 32 from rfl, show 39 - 15 = 24 from rfl, show 39 - 16 = 23 from rfl, a33_w37, a33_w32, a33_w24, a33_w23]; decide +kernel
theorem a33_w40 : sch a33M 40 = 2782002469#32 := by rw [sch_hi _ (by omega), show 40 - 2 = 38 from rfl, show 40 - 7 = 33 from rfl, show 40 - 15 = 25 from rfl, show 40 - 16 = 24 from rfl, a33_w38, a33_w33, a33_w25, a33_w24]; decide +kernel
theorem a33_w41 : sch a33M 41 = 3386758147#32 := by rw [sch_hi _ (by omega), show 41 - 2 = 39 from rfl, show 41 - 7 = 34 from rfl, show 41 - 15 = 26 from rfl, show 41 - 16 = 25 from rfl, a33_w39, a33_w34, a33_w26, a33_w25]; decide +kernel
theorem a33_w42 : sch a33M 42 = 1878091908#32 := by rw [sch_hi _ (by omega), show 42 - 2 = 40 from rfl, show 42 - 7 = 35 from rfl, show 42 - 15 = 27 from rfl, show 42 - 16 = 26 from rfl, a33_w40, a33_w35, a33_w27, a33_w26]; decide +kernel
theorem a33_w43 : sch a33M 43 = 1239111161#32 := by rw [sch_hi _ (by omega), show 43 - 2 = 41 from rfl, show 43 - 7 = 36 from rfl, show 43 - 15 = 28 from rfl, show 43 - 16 = 27 from rfl, a33_w41, a33_w36, a33_w28, a33_w27]; decide +kernel
theorem a33_w44 : sch a33M 44 = 2467709955#32 := by rw [sch_hi _ (by omega), show 44 - 2 = 42 from rfl, show 44 - 7 = 37 from rfl, show 44 - 15 = 29 from rfl, show 44 - 16 = 28 from rfl, a33_w42, a33_w37, a33_w29, a33_w28]; decide +kernel
theorem a33_w45 : sch a33M 45 = 3973103480#32 := by rw [sch_hi _ (by omega), show 45 - 2 = 43 from rfl, show 45 - 7 = 38 from rfl, show 45 - 15 = 30 from rfl, show 45 - 16 = 29 from rfl, a33_w43, a33_w38, a33_w30, a33_w29]; decide +kernel
theorem a33_w46 : sch a33M 46 = 2832947703#32 := by rw [sch_hi _ (by omega), show 46 - 2 = 44 from rfl, show 46 - 7 = 39 from rfl, show 46 - 15 = 31 from rfl, show 46 - 16 = 30 from rfl, a33_w44, a33_w39, a33_w31, a33_w30]; decide +kernel
theorem a33_w47 : sch a33M 47 = 2236657726#32 := by rw [sch_hi _ (by omega), show 47 - 2 = 45 from rfl, show 47 - 7 = 40 from rfl, show 47 - 15 = 32 from rfl, show 47 - 16 = 31 from rfl, a33_w45, a33_w40, a33_w32, a33_w31]; decide +kernel
theorem a33_w48 : sch a33M 48 = 3487724063#32 := by rw [sch_hi _ (by omega), show 48 - 2 = 46 from rfl, show 48 - 7 = 41 from rfl, show 48 - 15 = 33 from rfl, show 48 - 16 = 32 from rfl, a33_w46, a33_w41, a33_w33, a33_w32]; decide +kernel
theorem a33_w49 : sch a33M 49 = 1540413741#32 := by rw [sch_hi _ (by omega), show 49 - 2 = 47 from rfl, show 49 - 7 = 42 from rfl, show 49 - 15 = 34 from rfl, show 49 - 16 = 33 from rfl, a33_w47, a33_w42, a33_w34, a33_w33]; decide +kernel
theorem a33_w50 : sch a33M 50 = 3635021127#32 := by rw [sch_hi _ (by omega), show 50 - 2 = 48 from rfl, show 50 - 7 = 43 from rfl, show 50 - 15 = 35 from rfl, show 50 - 16 = 34 from rfl, a33_w48, a33_w43, a33_w35, a33_w34]; decide +kernel
theorem a33_w51 : sch a33M 51 = 2275538183#32 := by rw [sch_hi _ (by omega), show 51 - 2 = 49 from rfl, show 51 - 7 = 44 from rfl, show 51 - 15 = 36 from rfl, show 51 - 16 = 35 from rfl, a33_w49, a33_w44, a33_w36, a33_w35]; decide +kernel
theorem a33_w52 : sch a33M 52 = 1982370809#32 := by rw [sch_hi _ (by omega), show 52 - 2 = 50 from rfl, show 52 - 7 = 45 from rfl, show 52 - 15 = 37 from rfl, show 52 - 16 = 36 from rfl, a33_w50, a33_w45, a33_w37, a33_w36]; decide +kernel
theorem a33_w53 : sch a33M 53 = 3936179604#32 := by rw [sch_hi _ (by omega), show 53 - 2 = 51 from rfl, show 53 - 7 = 46 from rfl, show 53 - 15 = 38 from rfl, show 53 - 16 = 37 from rfl, a33_w51, a33_w46, a33_w38, a33_w37]; decide +kernel
theorem a33_w54 : sch a33M 54 = 2296006302#32 := by rw [sch_hi _ (by omega), show 54 - 2 = 52 from rfl, show 54 - 7 = 47 from rfl, show 54 - 15 = 39 from rfl, show 54 - 16 = 38 from rfl, a33_w52, a33_w47, a33_w39, a33_w38]; decide +kernel
theorem a33_w55 : sch a33M 55 = 391106501#32 := by rw [sch_hi _ (by omega), show 55 - 2 = 53 from rfl, show 55 - 7 = 48 from rfl, show 55 - 15 = 40 from rfl, show 55 - 16 = 39 from rfl, a33_w53, a33_w48, a33_w40, a33_w39]; decide +kernel
theorem a33_w56 : sch a33M 56 = 3641339288#32 := by rw [sch_hi _ (by omega), show 56 - 2 = 54 from rfl, show 56 - 7 = 49 from rfl, show 56 - 15 = 41 from rfl, show 56 - 16 = 40 from rfl, a33_w54, a33_w49, a33_w41, a33_w40]; decide +kernel
theorem a33_w57 : sch a33M 57 = 531146820#32 := by rw [sch_hi _ (by omega), show 57 - 2 = 55 from rfl, show 57 - 7 = 50 from rfl, show 57 - 15 = 42 from rfl, show 57 - 16 = 41 from rfl, a33_w55, a33_w50, a33_w42, a33_w41]; decide +kernel
theorem a33_w58 : sch a33M 58 = 2712871212#32 := by rw [sch_hi _ (by omega), show 58 - 2 = 56 from rfl, show 58 - 7 = 51 from rfl, show 58 - 15 = 43 from rfl, show 58 - 16 = 42 from rfl, a33_w56, a33_w51, a33_w43, a33_w42]; decide +kernel
theorem a33_w59 : sch a33M 59 = 2239058122#32 := by rw [sch_hi _ (by omega), show 59 - 2 = 57 from rfl, show 59 - 7 = 52 from rfl, show 59 - 15 = 44 from rfl, show 59 - 16 = 43 from rfl, a33_w57, a33_w52, a33_w44, a33_w43]; decide +kernel
theorem a33_w60 : sch a33M 60 = 904712035#32 := by rw [sch_hi _ (by omega), show 60 - 2 = 58 from rfl, show 60 - 7 = 53 from rfl, show 60 - 15 = 45 from rfl, show 60 - 16 = 44 from rfl, a33_w58, a33_w53, a33_w45, a33_w44]; decide +kernel
theorem a33_w61 : sch a33M 61 = 2755628305#32 := by rw [sch_hi _ (by omega), show 61 - 2 = 59 from rfl, show 61 - 7 = 54 from rfl, show 61 - 15 = 46 from rfl, show 61 - 16 = 45 from rfl, a33_w59, a33_w54, a33_w46, a33_w45]; decide +kernel
theorem a33_w62 : sch a33M 62 = 2803559#32 := by rw [sch_hi _ (by omega), show 62 - 2 = 60 from rfl, show 62 - 7 = 55 from rfl, show 62 - 15 = 47 from rfl, show 62 - 16 = 46 from rfl, a33_w60, a33_w55, a33_w47, a33_w46]; decide +kernel
theorem a33_w63 : sch a33M 63 = 1346601136#32 := by rw [sch_hi _ (by omega), show 63 - 2 = 61 from rfl, show 63 - 7 = 56 from rfl, show 63 - 15 = 48 from rfl, show 63 - 16 = 47 from rfl, a33_w61, a33_w56, a33_w48, a33_w47]; decide +kernel
def a33V : V8 := ⟨1779033703#32, 3144134277#32, 1013904242#32, 2773480762#32, 1359893119#32, 2600822924#32, 528734635#32, 1541459225#32⟩
theorem a33_s0 : steps a33M a33V 0 = ⟨1779033703#32, 3144134277#32, 1013904242#32, 2773480762#32, 1359893119#32, 2600822924#32, 528734635#32, 1541459225#32⟩ := rfl
theorem a33_s1 : steps a33M a33V 1 = ⟨1560840269#32, 1779033703#32, 3144134277#32, 1013904242#32, 4190626466#32, 1359893119#32, 2600822924#32, 528734635#32⟩ := by
  have h1 : t1 ⟨1779033703#32, 3144134277#32, 1013904242#32, 2773480762#32, 1359893119#32, 2600822924#32, 528734635#32, 1541459225#32⟩ (kL.getD 0 0) 1627389952#32 = 1417145704#32 := by decide +kernel
  have h2 : t2 ⟨1779033703#32, 3144134277#32, 1013904242#32, 2773480762#32, 1359893119#32, 2600822924#32, 528734635#32, 1541459225#32⟩ = 143694565#32 := by decide +kernel
  show step (steps a33M a33V 0) (kL.getD 0 0) (sch a33M 0) = _
  rw [a33_s0, a33_w0]
  unfold step
  rw [h1, h2]
  rfl
theorem a33_s2 : steps a33M a33V 2 = ⟨3525217244#32, 1560840269#32, 1779033703#32, 3144134277#32, 1551487462#32, 4190626466#32, 1359893119#32, 2600822924#32⟩ := by
  have h1 : t1 ⟨1560840269#32, 1779033703#32, 3144134277#32, 1013904242#32, 4190626466#32, 1359893119#32, 2600822924#32, 528734635#32⟩ (kL.getD 1 0) 0#32 = 537583220#32 := by decide +kernel
  have h2 : t2 ⟨1560840269#32, 1779033703#32, 3144134277#32, 1013904242#32, 4190626466#32, 1359893119#32, 2600822924#32, 528734635#32⟩ = 2987634024#32 := by decide +kernel
  show step (steps a33M a33V 1) (kL.getD 1 0) (sch a33M 1) = _
  rw [a33_s1, a33_w1]
  unfold step
  rw [h1, h2]
  rfl
theorem a33_s3 : steps a33M a33V 3 = ⟨2914487809#32, 3525217244#32, 1560840269#32, 1779033703#32, 4274548974#32, 1551487462#32, 4190626466#32, 1359893119#32⟩ := by
  have h1 : t1 ⟨3525217244#32, 1560840269#32, 1779033703#32, 3144134277#32, 1551487462#32, 4190626466#32, 1359893119#32, 2600822924#32⟩ (kL.getD 2 0) 0#32 = 1130414697#32 := by decide +kernel
  have h2 : t2 ⟨3525217244#32, 1560840269#32, 1779033703#32, 3144134277#32, 1551487462#32, 4190626466#32, 1359893119#32, 2600822924#32⟩ = 1784073112#32 := by decide +kernel
  show step (steps a33M a33V 2) (kL.getD 2 0) (sch a33M 2) = _
  rw [a33_s2, a33_w2]
  unfold step
  rw [h1, h2]
  rfl
theorem a33_s4 : steps a33M a33V 4 = ⟨4238844819#32, 2914487809#32, 3525217244#32, 1560840269#32, 3292165923#32, 4274548974#32, 1551487462#32, 4190626466#32⟩ := by
  have h1 : t1 ⟨2914487809#32, 3525217244#32, 1560840269#32, 1779033703#32, 4274548974#32, 1551487462#32, 4190626466#32, 1359893119#32⟩ (kL.getD 3 0) 0#32 = 1513132220#32 := by decide +kernel
  have h2 : t2 ⟨2914487809#32, 3525217244#32, 1560840269#32, 1779033703#32, 4274548974#32, 1551487462#32, 4190626466#32, 1359893119#32⟩ = 2725712599#32 := by decide +kernel
  show step (steps a33M a33V 3) (kL.getD 3 0) (sch a33M 3) = _
  rw [a33_s3, a33_w3]
  unfold step
  rw [h1, h2]
  rfl
theorem a33_s5 : steps a33M a33V 5 = ⟨4289487631#32, 4238844819#32, 2914487809#32, 3525217244#32, 3804568992#32, 3292165923#32, 4274548974#32, 1551487462#32⟩ := by
  have h1 : t1 ⟨4238844819#32, 2914487809#32, 3525217244#32, 1560840269#32, 3292165923#32, 4274548974#32, 1551487462#32, 4190626466#32⟩ (kL.getD 4 0) 0#32 = 2243728723#32 := by decide +kernel
  have h2 : t2 ⟨4238844819#32, 2914487809#32, 3525217244#32, 1560840269#32, 3292165923#32, 4274548974#32, 1551487462#32, 4190626466#32⟩ = 2045758908#32 := by decide +kernel
  show step (steps a33M a33V 4) (kL.getD 4 0) (sch a33M 4) = _
  rw [a33_s4, a33_w4]
  unfold step
  rw [h1, h2]
  rfl
theorem a33_s6 : steps a33M a33V 6 = ⟨994931530#32, 4289487631#32, 4238844819#32, 2914487809#32, 3115024837#32, 3804568992#32, 3292165923#32, 4274548974#32⟩ := by
  have h1 : t1 ⟨4289487631#32, 4238844819#32, 2914487809#32, 3525217244#32, 3804568992#32, 3292165923#32, 4274548974#32, 1551487462#32⟩ (kL.getD 5 0) 0#32 = 3884774889#32 := by decide +kernel
  have h2 : t2 ⟨4289487631#32, 4238844819#32, 2914487809#32, 3525217244#32, 3804568992#32, 3292165923#32, 4274548974#32, 1551487462#32⟩ = 1405123937#32 := by decide +kernel
  show step (steps a33M a33V 5) (kL.getD 5 0) (sch a33M 5) = _
  rw [a33_s5, a33_w5]
  unfold step
  rw [h1, h2]
  rfl
theorem a33_s7 : steps a33M a33V 7 = ⟨2452092478#32, 994931530#32, 4289487631#32, 4238844819#32, 518157024#32, 3115024837#32, 3804568992#32, 3292165923#32⟩ := by
  have h1 : t1 ⟨994931530#32, 4289487631#32, 4238844819#32, 2914487809#32, 3115024837#32, 3804568992#32, 3292165923#32, 4274548974#32⟩ (kL.getD 6 0) 0#32 = 1898636511#32 := by decide +kernel
  have h2 : t2 ⟨994931530#32, 4289487631#32, 4238844819#32, 2914487809#32, 3115024837#32, 3804568992#32, 3292165923#32, 4274548974#32⟩ = 553455967#32 := by decide +kernel
  show step (steps a33M a33V 6) (kL.getD 6 0) (sch a33M 6) = _
  rw [a33_s6, a33_w6]
  unfold step
  rw [h1, h2]
  rfl
theorem a33_s8 : steps a33M a33V 8 = ⟨1527911240#32, 2452092478#32, 994931530#32, 4289487631#32, 300330197#32, 518157024#32, 3115024837#32, 3804568992#32⟩ := by
  have h1 : t1 ⟨2452092478#32, 994931530#32, 4289487631#32, 4238844819#32, 518157024#32, 3115024837#32, 3804568992#32, 3292165923#32⟩ (kL.getD 7 0) 0#32 = 356452674#32 := by decide +kernel
  have h2 : t2 ⟨2452092478#32, 994931530#32, 4289487631#32, 4238844819#32, 518157024#32, 3115024837#32, 3804568992#32, 3292165923#32⟩ = 1171458566#32 := by decide +kernel
  show step (steps a33M a33V 7) (kL.getD 7 0) (sch a33M 7) = _
  rw [a33_s7, a33_w7]
  unfold step
  rw [h1, h2]
  rfl
theorem a33_s9 : steps a33M a33V 9 = ⟨2445191006#32, 1527911240#32, 2452092478#32, 994931530#32, 2979535349#32, 300330197#32, 518157024#32, 3115024837#32⟩ := by
  have h1 : t1 ⟨1527911240#32, 2452092478#32, 994931530#32, 4289487631#32, 300330197#32, 518157024#32, 3115024837#32, 3804568992#32⟩ (kL.getD 8 0) 8388608#32 = 2985015014#32 := by decide +kernel
  have h2 : t2 ⟨1527911240#32, 2452092478#32, 994931530#32, 4289487631#32, 300330197#32, 518157024#32, 3115024837#32, 3804568992#32⟩ = 3755143288#32 := by decide +kernel
  show step (steps a33M a33V 8) (kL.getD 8 0) (sch a33M 8) = _
  rw [a33_s8, a33_w8]
  unfold step
  rw [h1, h2]
  rfl
theorem a33_s10 : steps a33M a33V 10 = ⟨130746137#32, 2445191006#32, 1527911240#32, 2452092478#32, 1272669345#32, 2979535349#32, 300330197#32, 518157024#32⟩ := by
  have h1 : t1 ⟨2445191006#32, 1527911240#32, 2452092478#32, 994931530#32, 2979535349#32, 300330197#32, 518157024#32, 3115024837#32⟩ (kL.getD 9 0) 0#32 = 277737815#32 := by decide +kernel
  have h2 : t2 ⟨2445191006#32, 1527911240#32, 2452092478#32, 994931530#32, 2979535349#32, 300330197#32, 518157024#32, 3115024837#32⟩ = 4147975618#32 := by decide +kernel
  show step (steps a33M a33V 9) (kL.getD 9 0) (sch a33M 9) = _
  rw [a33_s9, a33_w9]
  unfold step
  rw [h1, h2]
  rfl
theorem a33_s11 : steps a33M a33V 11 = ⟨3125111495#32, 130746137#32, 2445191006#32, 1527911240#32, 3819748908#32, 1272669345#32, 2979535349#32, 300330197#32⟩ := by
  have h1 : t1 ⟨130746137#32, 2445191006#32, 1527911240#32, 2452092478#32, 1272669345#32, 2979535349#32, 300330197#32, 518157024#32⟩ (kL.getD 10 0) 0#32 = 1367656430#32 := by decide +kernel
  have h2 : t2 ⟨130746137#32, 2445191006#32, 1527911240#32, 2452092478#32, 1272669345#32, 2979535349#32, 300330197#32, 518157024#32⟩ = 1757455065#32 := by decide +kernel
  show step (steps a33M a33V 10) (kL.getD 10 0) (sch a33M 10) = _
  rw [a33_s10, a33_w10]
  unfold step
  rw [h1, h2]
  rfl
theorem a33_s12 : steps a33M a33V 12 = ⟨2611994489#32, 3125111495#32, 130746137#32, 2445191006#32, 3052090607#32, 3819748908#32, 1272669345#32, 2979535349#32⟩ := by
  have h1 : t1 ⟨3125111495#32, 130746137#32, 2445191006#32, 1527911240#32, 3819748908#32, 1272669345#32, 2979535349#32, 300330197#32⟩ (kL.getD 11 0) 0#32 = 1524179367#32 := by decide +kernel
  have h2 : t2 ⟨3125111495#32, 130746137#32, 2445191006#32, 1527911240#32, 3819748908#32, 1272669345#32, 2979535349#32, 300330197#32⟩ = 1087815122#32 := by decide +kernel
  show step (steps a33M a33V 11) (kL.getD 11 0) (sch a33M 11) = _
  rw [a33_s11, a33_w11]
  unfold step
  rw [h1, h2]
  rfl
theorem a33_s13 : steps a33M a33V 13 = ⟨2767482411#32, 2611994489#32, 3125111495#32, 130746137#32, 2022242658#32, 3052090607#32, 3819748908#32, 1272669345#32⟩ := by
  have h1 : t1 ⟨2611994489#32, 3125111495#32, 130746137#32, 2445191006#32, 3052090607#32, 3819748908#32, 1272669345#32, 2979535349#32⟩ (kL.getD 12 0) 0#32 = 3872018948#32 := by decide +kernel
  have h2 : t2 ⟨2611994489#32, 3125111495#32, 130746137#32, 2445191006#32, 3052090607#32, 3819748908#32, 1272669345#32, 2979535349#32⟩ = 3190430759#32 := by decide +kernel
  show step (steps a33M a33V 12) (kL.getD 12 0) (sch a33M 12) = _
  rw [a33_s12, a33_w12]
  unfold step
  rw [h1, h2]
  rfl
theorem a33_s14 : steps a33M a33V 14 = ⟨1727386104#32, 2767482411#32, 2611994489#32, 3125111495#32, 1778571244#32, 2022242658#32, 3052090607#32, 3819748908#32⟩ := by
  have h1 : t1 ⟨2767482411#32, 2611994489#32, 3125111495#32, 130746137#32, 2022242658#32, 3052090607#32, 3819748908#32, 1272669345#32⟩ (kL.getD 13 0) 0#32 = 1647825107#32 := by decide +kernel
  have h2 : t2 ⟨2767482411#32, 2611994489#32, 3125111495#32, 130746137#32, 2022242658#32, 3052090607#32, 3819748908#32, 1272669345#32⟩ = 79560997#32 := by decide +kernel
  show step (steps a33M a33V 13) (kL.getD 13 0) (sch a33M 13) = _
  rw [a33_s13, a33_w13]
  unfold step
  rw [h1, h2]
  rfl
theorem a33_s15 : steps a33M a33V 15 = ⟨3002135850#32, 1727386104#32, 2767482411#32, 2611994489#32, 2231819821#32, 1778571244#32, 2022242658#32, 3052090607#32⟩ := by
  have h1 : t1 ⟨1727386104#32, 2767482411#32, 2611994489#32, 3125111495#32, 1778571244#32, 2022242658#32, 3052090607#32, 3819748908#32⟩ (kL.getD 14 0) 0#32 = 3401675622#32 := by decide +kernel
  have h2 : t2 ⟨1727386104#32, 2767482411#32, 2611994489#32, 3125111495#32, 1778571244#32, 2022242658#32, 3052090607#32, 3819748908#32⟩ = 3895427524#32 := by decide +kernel
  show step (steps a33M a33V 14) (kL.getD 14 0) (sch a33M 14) = _
  rw [a33_s14, a33_w14]
  unfold step
  rw [h1, h2]
  rfl
theorem a33_s16 : steps a33M a33V 16 = ⟨1309655402#32, 3002135850#32, 1727386104#32, 2767482411#32, 2089659315#32, 2231819821#32, 1778571244#32, 2022242658#32⟩ := by
  have h1 : t1 ⟨3002135850#32, 1727386104#32, 2767482411#32, 2611994489#32, 2231819821#32, 1778571244#32, 2022242658#32, 3052090607#32⟩ (kL.getD 15 0) 264#32 = 3772632122#32 := by decide +kernel
  have h2 : t2 ⟨3002135850#32, 1727386104#32, 2767482411#32, 2611994489#32, 2231819821#32, 1778571244#32, 2022242658#32, 3052090607#32⟩ = 1831990576#32 := by decide +kernel
  show step (steps a33M a33V 15) (kL.getD 15 0) (sch a33M 15) = _
  rw [a33_s15, a33_w15]
  unfold step
  rw [h1, h2]
  rfl
theorem a33_s17 : steps a33M a33V 17 = ⟨3493706427#32, 1309655402#32, 3002135850#32, 1727386104#32, 1718103648#32, 2089659315#32, 2231819821#32, 1778571244#32⟩ := by
  have h1 : t1 ⟨1309655402#32, 3002135850#32, 1727386104#32, 2767482411#32, 2089659315#32, 2231819821#32, 1778571244#32, 2022242658#32⟩ (kL.getD 16 0) 1627389952#32 = 3245588533#32 := by decide +kernel
  have h2 : t2 ⟨1309655402#32, 3002135850#32, 1727386104#32, 2767482411#32, 2089659315#32, 2231819821#32, 1778571244#32, 2022242658#32⟩ = 248117894#32 := by decide +kernel
  show step (steps a33M a33V 16) (kL.getD 16 0) (sch a33M 16) = _
  rw [a33_s16, a33_w16]
  unfold step
  rw [h1, h2]
  rfl
theorem a33_s18 : steps a33M a33V 18 = ⟨1651533915#32, 3493706427#32, 1309655402#32, 3002135850#32, 535644454#32, 1718103648#32, 2089659315#32, 2231819821#32⟩ := by
  have h1 : t1 ⟨3493706427#32, 1309655402#32, 3002135850#32, 1727386104#32, 1718103648#32, 2089659315#32, 2231819821#32, 1778571244#32⟩ (kL.getD 17 0) 10813440#32 = 3103225646#32 := by decide +kernel
  have h2 : t2 ⟨3493706427#32, 1309655402#32, 3002135850#32, 1727386104#32, 1718103648#32, 2089659315#32, 2231819821#32, 1778571244#32⟩ = 2843275565#32 := by decide +kernel
  show step (steps a33M a33V 17) (kL.getD 17 0) (sch a33M 17) = _
  rw [a33_s17, a33_w17]
  unfold step
  rw [h1, h2]
  rfl
theorem a33_s19 : steps a33M a33V 19 = ⟨3817261917#32, 1651533915#32, 3493706427#32, 1309655402#32, 4166218736#32, 535644454#32, 1718103648#32, 2089659315#32⟩ := by
  have h1 : t1 ⟨1651533915#32, 3493706427#32, 1309655402#32, 3002135850#32, 535644454#32, 1718103648#32, 2089659315#32, 2231819821#32⟩ (kL.getD 18 0) 1604768#32 = 1164082886#32 := by decide +kernel
  have h2 : t2 ⟨1651533915#32, 3493706427#32, 1309655402#32, 3002135850#32, 535644454#32, 1718103648#32, 2089659315#32, 2231819821#32⟩ = 2653179031#32 := by decide +kernel
  show step (steps a33M a33V 18) (kL.getD 18 0) (sch a33M 18) = _
  rw [a33_s18, a33_w18]
  unfold step
  rw [h1, h2]
  rfl
theorem a33_s20 : steps a33M a33V 20 = ⟨2393130828#32, 3817261917#32, 1651533915#32, 3493706427#32, 3243984108#32, 4166218736#32, 535644454#32, 1718103648#32⟩ := by
  have h1 : t1 ⟨3817261917#32, 1651533915#32, 3493706427#32, 1309655402#32, 4166218736#32, 535644454#32, 1718103648#32, 2089659315#32⟩ (kL.getD 19 0) 536881414#32 = 1934328706#32 := by decide +kernel
  have h2 : t2 ⟨3817261917#32, 1651533915#32, 3493706427#32, 1309655402#32, 4166218736#32, 535644454#32, 1718103648#32, 2089659315#32⟩ = 458802122#32 := by decide +kernel
  show step (steps a33M a33V 19) (kL.getD 19 0) (sch a33M 19) = _
  rw [a33_s19, a33_w19]
  unfold step
  rw [h1, h2]
  rfl
theorem a33_s21 : steps a33M a33V 21 = ⟨2478865668#32, 2393130828#32, 3817261917#32, 1651533915#32, 4169766295#32, 3243984108#32, 4166218736#32, 535644454#32⟩ := by
  have h1 : t1 ⟨2393130828#32, 3817261917#32, 1651533915#32, 3493706427#32, 3243984108#32, 4166218736#32, 535644454#32, 1718103648#32⟩ (kL.getD 20 0) 834930192#32 = 676059868#32 := by decide +kernel
  have h2 : t2 ⟨2393130828#32, 3817261917#32, 1651533915#32, 3493706427#32, 3243984108#32, 4166218736#32, 535644454#32, 1718103648#32⟩ = 1802805800#32 := by decide +kernel
  show step (steps a33M a33V 20) (kL.getD 20 0) (sch a33M 20) = _
  rw [a33_s20, a33_w20]
  unfold step
  rw [h1, h2]
  rfl
theorem a33_s22 : steps a33M a33V 22 = ⟨921036719#32, 2478865668#32, 2393130828#32, 3817261917#32, 1219587505#32, 4169766295#32, 3243984108#32, 4166218736#32⟩ := by
  have h1 : t1 ⟨2478865668#32, 2393130828#32, 3817261917#32, 1651533915#32, 4169766295#32, 3243984108#32, 4166218736#32, 535644454#32⟩ (kL.getD 21 0) 296473610#32 = 3863020886#32 := by decide +kernel
  have h2 : t2 ⟨2478865668#32, 2393130828#32, 3817261917#32, 1651533915#32, 4169766295#32, 3243984108#32, 4166218736#32, 535644454#32⟩ = 1352983129#32 := by decide +kernel
  show step (steps a33M a33V 21) (kL.getD 21 0) (sch a33M 21) = _
  rw [a33_s21, a33_w21]
  unfold step
  rw [h1, h2]
  rfl
theorem a33_s23 : steps a33M a33V 23 = ⟨3432347894#32, 921036719#32, 2478865668#32, 2393130828#32, 2983815976#32, 1219587505#32, 4169766295#32, 3243984108#32⟩ := by
  have h1 : t1 ⟨921036719#32, 2478865668#32, 2393130828#32, 3817261917#32, 1219587505#32, 4169766295#32, 3243984108#32, 4166218736#32⟩ (kL.getD 22 0) 2210820323#32 = 3461521355#32 := by decide +kernel
  have h2 : t2 ⟨921036719#32, 2478865668#32, 2393130828#32, 3817261917#32, 1219587505#32, 4169766295#32, 3243984108#32, 4166218736#32⟩ = 4265793835#32 := by decide +kernel
  show step (steps a33M a33V 22) (kL.getD 22 0) (sch a33M 22) = _
  rw [a33_s22, a33_w22]
  unfold step
  rw [h1, h2]
  rfl
theorem a33_s24 : steps a33M a33V 24 = ⟨1444091349#32, 3432347894#32, 921036719#32, 2478865668#32, 746651095#32, 2983815976#32, 1219587505#32, 4169766295#32⟩ := by
  have h1 : t1 ⟨3432347894#32, 921036719#32, 2478865668#32, 2393130828#32, 2983815976#32, 1219587505#32, 4169766295#32, 3243984108#32⟩ (kL.getD 23 0) 4052820021#32 = 2648487563#32 := by decide +kernel
  have h2 : t2 ⟨3432347894#32, 921036719#32, 2478865668#32, 2393130828#32, 2983815976#32, 1219587505#32, 4169766295#32, 3243984108#32⟩ = 3090571082#32 := by decide +kernel
  show step (steps a33M a33V 23) (kL.getD 23 0) (sch a33M 23) = _
  rw [a33_s23, a33_w23]
  unfold step
  rw [h1, h2]
  rfl
theorem a33_s25 : steps a33M a33V 25 = ⟨2636357434#32, 1444091349#32, 3432347894#32, 921036719#32, 584418706#32, 746651095#32, 2983815976#32, 1219587505#32⟩ := by
  have h1 : t1 ⟨1444091349#32, 3432347894#32, 921036719#32, 2478865668#32, 746651095#32, 2983815976#32, 1219587505#32, 4169766295#32⟩ (kL.getD 24 0) 4151459847#32 = 2400520334#32 := by decide +kernel
  have h2 : t2 ⟨1444091349#32, 3432347894#32, 921036719#32, 2478865668#32, 746651095#32, 2983815976#32, 1219587505#32, 4169766295#32⟩ = 235837100#32 := by decide +kernel
  show step (steps a33M a33V 24) (kL.getD 24 0) (sch a33M 24) = _
  rw [a33_s24, a33_w24]
  unfold step
  rw [h1, h2]
  rfl
theorem a33_s26 : steps a33M a33V 26 = ⟨2477165437#32, 2636357434#32, 1444091349#32, 3432347894#32, 496529552#32, 584418706#32, 746651095#32, 2983815976#32⟩ := by
  have h1 : t1 ⟨2636357434#32, 1444091349#32, 3432347894#32, 921036719#32, 584418706#32, 746651095#32, 2983815976#32, 1219587505#32⟩ (kL.getD 25 0) 3023609682#32 = 3870460129#32 := by decide +kernel
  have h2 : t2 ⟨2636357434#32, 1444091349#32, 3432347894#32, 921036719#32, 584418706#32, 746651095#32, 2983815976#32, 1219587505#32⟩ = 2901672604#32 := by decide +kernel
  show step (steps a33M a33V 25) (kL.getD 25 0) (sch a33M 25) = _
  rw [a33_s25, a33_w25]
  unfold step
  rw [h1, h2]
  rfl
theorem a33_s27 : steps a33M a33V 27 = ⟨3846580088#32, 2477165437#32, 2636357434#32, 1444091349#32, 1972320076#32, 496529552#32, 584418706#32, 746651095#32⟩ := by
  have h1 : t1 ⟨2477165437#32, 2636357434#32, 1444091349#32, 3432347894#32, 496529552#32, 584418706#32, 746651095#32, 2983815976#32⟩ (kL.getD 26 0) 2285830861#32 = 2834939478#32 := by decide +kernel
  have h2 : t2 ⟨2477165437#32, 2636357434#32, 1444091349#32, 3432347894#32, 496529552#32, 584418706#32, 746651095#32, 2983815976#32⟩ = 1011640610#32 := by decide +kernel
  show step (steps a33M a33V 26) (kL.getD 26 0) (sch a33M 26) = _
  rw [a33_s26, a33_w26]
  unfold step
  rw [h1, h2]
  rfl
theorem a33_s28 : steps a33M a33V 28 = ⟨1624912367#32, 3846580088#32, 2477165437#32, 2636357434#32, 129726418#32, 1972320076#32, 496529552#32, 584418706#32⟩ := by
  have h1 : t1 ⟨3846580088#32, 2477165437#32, 2636357434#32, 1444091349#32, 1972320076#32, 496529552#32, 584418706#32, 746651095#32⟩ (kL.getD 27 0) 2385643724#32 = 2980602365#32 := by decide +kernel
  have h2 : t2 ⟨3846580088#32, 2477165437#32, 2636357434#32, 1444091349#32, 1972320076#32, 496529552#32, 584418706#32, 746651095#32⟩ = 2939277298#32 := by decide +kernel
  show step (steps a33M a33V 27) (kL.getD 27 0) (sch a33M 27) = _
  rw [a33_s27, a33_w27]
  unfold step
  rw [h1, h2]
  rfl
theorem a33_s29 : steps a33M a33V 29 = ⟨188769791#32, 1624912367#32, 3846580088#32, 2477165437#32, 2266213011#32, 129726418#32, 1972320076#32, 496529552#32⟩ := by
  have h1 : t1 ⟨1624912367#32, 3846580088#32, 2477165437#32, 2636357434#32, 129726418#32, 1972320076#32, 496529552#32, 584418706#32⟩ (kL.getD 28 0) 1925795554#32 = 3924822873#32 := by decide +kernel
  have h2 : t2 ⟨1624912367#32, 3846580088#32, 2477165437#32, 2636357434#32, 129726418#32, 1972320076#32, 496529552#32, 584418706#32⟩ = 558914214#32 := by decide +kernel
  show step (steps a33M a33V 28) (kL.getD 28 0) (sch a33M 28) = _
  rw [a33_s28, a33_w28]
  unfold step
  rw [h1, h2]
  rfl
theorem a33_s30 : steps a33M a33V 30 = ⟨398315361#32, 188769791#32, 1624912367#32, 3846580088#32, 1566733710#32, 2266213011#32, 129726418#32, 1972320076#32⟩ := by
  have h1 : t1 ⟨188769791#32, 1624912367#32, 3846580088#32, 2477165437#32, 2266213011#32, 129726418#32, 1972320076#32, 496529552#32⟩ (kL.getD 29 0) 3374500672#32 = 3384535569#32 := by decide +kernel
  have h2 : t2 ⟨188769791#32, 1624912367#32, 3846580088#32, 2477165437#32, 2266213011#32, 129726418#32, 1972320076#32, 496529552#32⟩ = 1308747088#32 := by decide +kernel
  show step (steps a33M a33V 29) (kL.getD 29 0) (sch a33M 29) = _
  rw [a33_s29, a33_w29]
  unfold step
  rw [h1, h2]
  rfl
theorem a33_s31 : steps a33M a33V 31 = ⟨464598594#32, 398315361#32, 188769791#32, 1624912367#32, 860138851#32, 1566733710#32, 2266213011#32, 129726418#32⟩ := by
  have h1 : t1 ⟨398315361#32, 188769791#32, 1624912367#32, 3846580088#32, 1566733710#32, 2266213011#32, 129726418#32, 1972320076#32⟩ (kL.getD 30 0) 2424628678#32 = 1308526059#32 := by decide +kernel
  have h2 : t2 ⟨398315361#32, 188769791#32, 1624912367#32, 3846580088#32, 1566733710#32, 2266213011#32, 129726418#32, 1972320076#32⟩ = 3451039831#32 := by decide +kernel
  show step (steps a33M a33V 30) (kL.getD 30 0) (sch a33M 30) = _
  rw [a33_s30, a33_w30]
  unfold step
  rw [h1, h2]
  rfl
theorem a33_s32 : steps a33M a33V 32 = ⟨2170233524#32, 464598594#32, 398315361#32, 188769791#32, 3596506313#32, 860138851#32, 1566733710#32, 2266213011#32⟩ := by
  have h1 : t1 ⟨464598594#32, 398315361#32, 188769791#32, 1624912367#32, 860138851#32, 1566733710#32, 2266213011#32, 129726418#32⟩ (kL.getD 31 0) 1095667286#32 = 1971593946#32 := by decide +kernel
  have h2 : t2 ⟨464598594#32, 398315361#32, 188769791#32, 1624912367#32, 860138851#32, 1566733710#32, 2266213011#32, 129726418#32⟩ = 198639578#32 := by decide +kernel
  show step (steps a33M a33V 31) (kL.getD 31 0) (sch a33M 31) = _
  rw [a33_s31, a33_w31]
  unfold step
  rw [h1, h2]
  rfl
theorem a33_s33 : steps a33M a33V 33 = ⟨209202312#32, 2170233524#32, 464598594#32, 398315361#32, 2860997558#32, 3596506313#32, 860138851#32, 1566733710#32⟩ := by
  have h1 : t1 ⟨2170233524#32, 464598594#32, 398315361#32, 188769791#32, 3596506313#32, 860138851#32, 1566733710#32, 2266213011#32⟩ (kL.getD 32 0) 1137591526#32 = 2672227767#32 := by decide +kernel
  have h2 : t2 ⟨2170233524#32, 464598594#32, 398315361#32, 188769791#32, 3596506313#32, 860138851#32, 1566733710#32, 2266213011#32⟩ = 1831941841#32 := by decide +kernel
  show step (steps a33M a33V 32) (kL.getD 32 0) (sch a33M 32) = _
  rw [a33_s32, a33_w32]
  unfold step
  rw [h1, h2]
  rfl
theorem a33_s34 : steps a33M a33V 34 = ⟨519933710#32, 209202312#32, 2170233524#32, 464598594#32, 2773872413#32, 2860997558#32, 3596506313#32, 860138851#32⟩ := by
  have h1 : t1 ⟨209202312#32, 2170233524#32, 464598594#32, 398315361#32, 2860997558#32, 3596506313#32, 860138851#32, 1566733710#32⟩ (kL.getD 33 0) 2130771301#32 = 2375557052#32 := by decide +kernel
  have h2 : t2 ⟨209202312#32, 2170233524#32, 464598594#32, 398315361#32, 2860997558#32, 3596506313#32, 860138851#32, 1566733710#32⟩ = 2439343954#32 := by decide +kernel
  show step (steps a33M a33V 33) (kL.getD 33 0) (sch a33M 33) = _
  rw [a33_s33, a33_w33]
  unfold step
  rw [h1, h2]
  rfl
theorem a33_s35 : steps a33M a33V 35 = ⟨1141830355#32, 519933710#32, 209202312#32, 2170233524#32, 1230196277#32, 2773872413#32, 2860997558#32, 3596506313#32⟩ := by
  have h1 : t1 ⟨519933710#32, 209202312#32, 2170233524#32, 464598594#32, 2773872413#32, 2860997558#32, 3596506313#32, 860138851#32⟩ (kL.getD 34 0) 2068524269#32 = 765597683#32 := by decide +kernel
  have h2 : t2 ⟨519933710#32, 209202312#32, 2170233524#32, 464598594#32, 2773872413#32, 2860997558#32, 3596506313#32, 860138851#32⟩ = 376232672#32 := by decide +kernel
  show step (steps a33M a33V 34) (kL.getD 34 0) (sch a33M 34) = _
  rw [a33_s34, a33_w34]
  unfold step
  rw [h1, h2]
  rfl
theorem a33_s36 : steps a33M a33V 36 = ⟨739314891#32, 1141830355#32, 519933710#32, 209202312#32, 614248226#32, 1230196277#32, 2773872413#32, 2860997558#32⟩ := by
  have h1 : t1 ⟨1141830355#32, 519933710#32, 209202312#32, 2170233524#32, 1230196277#32, 2773872413#32, 2860997558#32, 3596506313#32⟩ (kL.getD 35 0) 464145670#32 = 2738981998#32 := by decide +kernel
  have h2 : t2 ⟨1141830355#32, 519933710#32, 209202312#32, 2170233524#32, 1230196277#32, 2773872413#32, 2860997558#32, 3596506313#32⟩ = 2295300189#32 := by decide +kernel
  show step (steps a33M a33V 35) (kL.getD 35 0) (sch a33M 35) = _
  rw [a33_s35, a33_w35]
  unfold step
  rw [h1, h2]
  rfl
theorem a33_s37 : steps a33M a33V 37 = ⟨2061592049#32, 739314891#32, 1141830355#32, 519933710#32, 2446193828#32, 614248226#32, 1230196277#32, 2773872413#32⟩ := by
  have h1 : t1 ⟨739314891#32, 1141830355#32, 519933710#32, 209202312#32, 614248226#32, 1230196277#32, 2773872413#32, 2860997558#32⟩ (kL.getD 36 0) 3522247322#32 = 2236991516#32 := by decide +kernel
  have h2 : t2 ⟨739314891#32, 1141830355#32, 519933710#32, 209202312#32, 614248226#32, 1230196277#32, 2773872413#32, 2860997558#32⟩ = 4119567829#32 := by decide +kernel
  show step (steps a33M a33V 36) (kL.getD 36 0) (sch a33M 36) = _
  rw [a33_s36, a33_w36]
  unfold step
  rw [h1, h2]
  rfl
theorem a33_s38 : steps a33M a33V 38 = ⟨30487723#32, 2061592049#32, 739314891#32, 1141830355#32, 3223917386#32, 2446193828#32, 614248226#32, 1230196277#32⟩ := by
  have h1 : t1 ⟨2061592049#32, 739314891#32, 1141830355#32, 519933710#32, 2446193828#32, 614248226#32, 1230196277#32, 2773872413#32⟩ (kL.getD 37 0) 1553825807#32 = 2703983676#32 := by decide +kernel
  have h2 : t2 ⟨2061592049#32, 739314891#32, 1141830355#32, 519933710#32, 2446193828#32, 614248226#32, 1230196277#32, 2773872413#32⟩ = 1621471343#32 := by decide +kernel
  show step (steps a33M a33V 37) (kL.getD 37 0) (sch a33M 37) = _
  rw [a33_s37, a33_w37]
  unfold step
  rw [h1, h2]
  rfl
theorem a33_s39 : steps a33M a33V 39 = ⟨3463492612#32, 30487723#32, 2061592049#32, 739314891#32, 3350172232#32, 3223917386#32, 2446193828#32, 614248226#32⟩ := by
  have h1 : t1 ⟨30487723#32, 2061592049#32, 739314891#32, 1141830355#32, 3223917386#32, 2446193828#32, 614248226#32, 1230196277#32⟩ (kL.getD 38 0) 3172714467#32 = 2208341877#32 := by decide +kernel
  have h2 : t2 ⟨30487723#32, 2061592049#32, 739314891#32, 1141830355#32, 3223917386#32, 2446193828#32, 614248226#32, 1230196277#32⟩ = 1255150735#32 := by decide +kernel
  show step (steps a33M a33V 38) (kL.getD 38 0) (sch a33M 38) = _
  rw [a33_s38, a33_w38]
  unfold step
  rw [h1, h2]
  rfl
theorem a33_s40 : steps a33M a33V 40 = ⟨135618045#32, 3463492612#32, 30487723#32, 2061592049#32, 2546657386#32, 3350172232#32, 3223917386#32, 2446193828#32⟩ := by
  have h1 : t1 ⟨3463492612#32, 30487723#32, 2061592049#32, 739314891#32, 3350172232#32, 3223917386#32, 2446193828#32, 614248226#32⟩ (kL.getD 39 0) 645011764#32 = 1807342495#32 := by decide +kernel
  have h2 : t2 ⟨3463492612#32, 30487723#32, 2061592049#32, 739314891#32, 3350172232#32, 3223917386#32, 2446193828#32, 614248226#32⟩ = 2623242846#32 := by decide +kernel
  show step (steps a33M a33V 39) (kL.getD 39 0) (sch a33M 39) = _
  rw [a33_s39, a33_w39]
  unfold step
  rw [h1, h2]
  rfl
theorem a33_s41 : steps a33M a33V 41 = ⟨3849416203#32, 135618045#32, 3463492612#32, 30487723#32, 1600568154#32, 2546657386#32, 3350172232#32, 3223917386#32⟩ := by
  have h1 : t1 ⟨135618045#32, 3463492612#32, 30487723#32, 2061592049#32, 2546657386#32, 3350172232#32, 3223917386#32, 2446193828#32⟩ (kL.getD 40 0) 2782002469#32 = 3833943401#32 := by decide +kernel
  have h2 : t2 ⟨135618045#32, 3463492612#32, 30487723#32, 2061592049#32, 2546657386#32, 3350172232#32, 3223917386#32, 2446193828#32⟩ = 15472802#32 := by decide +kernel
  show step (steps a33M a33V 40) (kL.getD 40 0) (sch a33M 40) = _
  rw [a33_s40, a33_w40]
  unfold step
  rw [h1, h2]
  rfl
theorem a33_s42 : steps a33M a33V 42 = ⟨2491788448#32, 3849416203#32, 135618045#32, 3463492612#32, 2099905954#32, 1600568154#32, 2546657386#32, 3350172232#32⟩ := by
  have h1 : t1 ⟨3849416203#32, 135618045#32, 3463492612#32, 30487723#32, 1600568154#32, 2546657386#32, 3350172232#32, 3223917386#32⟩ (kL.getD 41 0) 3386758147#32 = 2069418231#32 := by decide +kernel
  have h2 : t2 ⟨3849416203#32, 135618045#32, 3463492612#32, 30487723#32, 1600568154#32, 2546657386#32, 3350172232#32, 3223917386#32⟩ = 422370217#32 := by decide +kernel
  show step (steps a33M a33V 41) (kL.getD 41 0) (sch a33M 41) = _
  rw [a33_s41, a33_w41]
  unfold step
  rw [h1, h2]
  rfl
theorem a33_s43 : steps a33M a33V 43 = ⟨1563821550#32, 2491788448#32, 3849416203#32, 135618045#32, 1358561266#32, 2099905954#32, 1600568154#32, 2546657386#32⟩ := by
  have h1 : t1 ⟨2491788448#32, 3849416203#32, 135618045#32, 3463492612#32, 2099905954#32, 1600568154#32, 2546657386#32, 3350172232#32⟩ (kL.getD 42 0) 1878091908#32 = 2190035950#32 := by decide +kernel
  have h2 : t2 ⟨2491788448#32, 3849416203#32, 135618045#32, 3463492612#32, 2099905954#32, 1600568154#32, 2546657386#32, 3350172232#32⟩ = 3668752896#32 := by decide +kernel
  show step (steps a33M a33V 42) (kL.getD 42 0) (sch a33M 42) = _
  rw [a33_s42, a33_w42]
  unfold step
  rw [h1, h2]
  rfl
theorem a33_s44 : steps a33M a33V 44 = ⟨2308216321#32, 1563821550#32, 2491788448#32, 3849416203#32, 1548481941#32, 1358561266#32, 2099905954#32, 1600568154#32⟩ := by
  have h1 : t1 ⟨1563821550#32, 2491788448#32, 3849416203#32, 135618045#32, 1358561266#32, 2099905954#32, 1600568154#32, 2546657386#32⟩ (kL.getD 43 0) 1239111161#32 = 1412863896#32 := by decide +kernel
  have h2 : t2 ⟨1563821550#32, 2491788448#32, 3849416203#32, 135618045#32, 1358561266#32, 2099905954#32, 1600568154#32, 2546657386#32⟩ = 895352425#32 := by decide +kernel
  show step (steps a33M a33V 43) (kL.getD 43 0) (sch a33M 43) = _
  rw [a33_s43, a33_w43]
  unfold step
  rw [h1, h2]
  rfl
theorem a33_s45 : steps a33M a33V 45 = ⟨358628560#32, 2308216321#32, 1563821550#32, 2491788448#32, 3708532537#32, 1548481941#32, 1358561266#32, 2099905954#32⟩ := by
  have h1 : t1 ⟨2308216321#32, 1563821550#32, 2491788448#32, 3849416203#32, 1548481941#32, 1358561266#32, 2099905954#32, 1600568154#32⟩ (kL.getD 44 0) 2467709955#32 = 4154083630#32 := by decide +kernel
  have h2 : t2 ⟨2308216321#32, 1563821550#32, 2491788448#32, 3849416203#32, 1548481941#32, 1358561266#32, 2099905954#32, 1600568154#32⟩ = 499512226#32 := by decide +kernel
  show step (steps a33M a33V 44) (kL.getD 44 0) (sch a33M 44) = _
  rw [a33_s44, a33_w44]
  unfold step
  rw [h1, h2]
  rfl
theorem a33_s46 : steps a33M a33V 46 = ⟨2743326069#32, 358628560#32, 2308216321#32, 1563821550#32, 3081341173#32, 3708532537#32, 1548481941#32, 1358561266#32⟩ := by
  have h1 : t1 ⟨358628560#32, 2308216321#32, 1563821550#32, 2491788448#32, 3708532537#32, 1548481941#32, 1358561266#32, 2099905954#32⟩ (kL.getD 45 0) 3973103480#32 = 589552725#32 := by decide +kernel
  have h2 : t2 ⟨358628560#32, 2308216321#32, 1563821550#32, 2491788448#32, 3708532537#32, 1548481941#32, 1358561266#32, 2099905954#32⟩ = 2153773344#32 := by decide +kernel
  show step (steps a33M a33V 45) (kL.getD 45 0) (sch a33M 45) = _
  rw [a33_s45, a33_w45]
  unfold step
  rw [h1, h2]
  rfl
theorem a33_s47 : steps a33M a33V 47 = ⟨896828038#32, 2743326069#32, 358628560#32, 2308216321#32, 1158788182#32, 3081341173#32, 3708532537#32, 1548481941#32⟩ := by
  have h1 : t1 ⟨2743326069#32, 358628560#32, 2308216321#32, 1563821550#32, 3081341173#32, 3708532537#32, 1548481941#32, 1358561266#32⟩ (kL.getD 46 0) 2832947703#32 = 3889933928#32 := by decide +kernel
  have h2 : t2 ⟨2743326069#32, 358628560#32, 2308216321#32, 1563821550#32, 3081341173#32, 3708532537#32, 1548481941#32, 1358561266#32⟩ = 1301861406#32 := by decide +kernel
  show step (steps a33M a33V 46) (kL.getD 46 0) (sch a33M 46) = _
  rw [a33_s46, a33_w46]
  unfold step
  rw [h1, h2]
  rfl
theorem a33_s48 : steps a33M a33V 48 = ⟨1793114665#32, 896828038#32, 2743326069#32, 358628560#32, 1940795270#32, 1158788182#32, 3081341173#32, 3708532537#32⟩ := by
  have h1 : t1 ⟨896828038#32, 2743326069#32, 358628560#32, 2308216321#32, 1158788182#32, 3081341173#32, 3708532537#32, 1548481941#32⟩ (kL.getD 47 0) 2236657726#32 = 3927546245#32 := by decide +kernel
  have h2 : t2 ⟨896828038#32, 2743326069#32, 358628560#32, 2308216321#32, 1158788182#32, 3081341173#32, 3708532537#32, 1548481941#32⟩ = 2160535716#32 := by decide +kernel
  show step (steps a33M a33V 47) (kL.getD 47 0) (sch a33M 47) = _
  rw [a33_s47, a33_w47]
  unfold step
  rw [h1, h2]
  rfl
theorem a33_s49 : steps a33M a33V 49 = ⟨3062374771#32, 1793114665#32, 896828038#32, 2743326069#32, 3742095863#32, 1940795270#32, 1158788182#32, 3081341173#32⟩ := by
  have h1 : t1 ⟨1793114665#32, 896828038#32, 2743326069#32, 358628560#32, 1940795270#32, 1158788182#32, 3081341173#32, 3708532537#32⟩ (kL.getD 48 0) 3487724063#32 = 3383467303#32 := by decide +kernel
  have h2 : t2 ⟨1793114665#32, 896828038#32, 2743326069#32, 358628560#32, 1940795270#32, 1158788182#32, 3081341173#32, 3708532537#32⟩ = 3973874764#32 := by decide +kernel
  show step (steps a33M a33V 48) (kL.getD 48 0) (sch a33M 48) = _
  rw [a33_s48, a33_w48]
  unfold step
  rw [h1, h2]
  rfl
theorem a33_s50 : steps a33M a33V 50 = ⟨3872532109#32, 3062374771#32, 1793114665#32, 896828038#32, 2361067288#32, 3742095863#32, 1940795270#32, 1158788182#32⟩ := by
  have h1 : t1 ⟨3062374771#32, 1793114665#32, 896828038#32, 2743326069#32, 3742095863#32, 1940795270#32, 1158788182#32, 3081341173#32⟩ (kL.getD 49 0) 1540413741#32 = 3912708515#32 := by decide +kernel
  have h2 : t2 ⟨3062374771#32, 1793114665#32, 896828038#32, 2743326069#32, 3742095863#32, 1940795270#32, 1158788182#32, 3081341173#32⟩ = 4254790890#32 := by decide +kernel
  show step (steps a33M a33V 49) (kL.getD 49 0) (sch a33M 49) = _
  rw [a33_s49, a33_w49]
  unfold step
  rw [h1, h2]
  rfl
theorem a33_s51 : steps a33M a33V 51 = ⟨213253259#32, 3872532109#32, 3062374771#32, 1793114665#32, 1445516351#32, 2361067288#32, 3742095863#32, 1940795270#32⟩ := by
  have h1 : t1 ⟨3872532109#32, 3062374771#32, 1793114665#32, 896828038#32, 2361067288#32, 3742095863#32, 1940795270#32, 1158788182#32⟩ (kL.getD 50 0) 3635021127#32 = 548688313#32 := by decide +kernel
  have h2 : t2 ⟨3872532109#32, 3062374771#32, 1793114665#32, 896828038#32, 2361067288#32, 3742095863#32, 1940795270#32, 1158788182#32⟩ = 3959532242#32 := by decide +kernel
  show step (steps a33M a33V 50) (kL.getD 50 0) (sch a33M 50) = _
  rw [a33_s50, a33_w50]
  unfold step
  rw [h1, h2]
  rfl
theorem a33_s52 : steps a33M a33V 52 = ⟨3273376837#32, 213253259#32, 3872532109#32, 3062374771#32, 2531601188#32, 1445516351#32, 2361067288#32, 3742095863#32⟩ := by
  have h1 : t1 ⟨213253259#32, 3872532109#32, 3062374771#32, 1793114665#32, 1445516351#32, 2361067288#32, 3742095863#32, 1940795270#32⟩ (kL.getD 51 0) 2275538183#32 = 738486523#32 := by decide +kernel
  have h2 : t2 ⟨213253259#32, 3872532109#32, 3062374771#32, 1793114665#32, 1445516351#32, 2361067288#32, 3742095863#32, 1940795270#32⟩ = 2534890314#32 := by decide +kernel
  show step (steps a33M a33V 51) (kL.getD 51 0) (sch a33M 51) = _
  rw [a33_s51, a33_w51]
  unfold step
  rw [h1, h2]
  rfl
theorem a33_s53 : steps a33M a33V 53 = ⟨896875633#32, 3273376837#32, 213253259#32, 3872532109#32, 3882842772#32, 2531601188#32, 1445516351#32, 2361067288#32⟩ := by
  have h1 : t1 ⟨3273376837#32, 213253259#32, 3872532109#32, 3062374771#32, 2531601188#32, 1445516351#32, 2361067288#32, 3742095863#32⟩ (kL.getD 52 0) 1982370809#32 = 820468001#32 := by decide +kernel
  have h2 : t2 ⟨3273376837#32, 213253259#32, 3872532109#32, 3062374771#32, 2531601188#32, 1445516351#32, 2361067288#32, 3742095863#32⟩ = 76407632#32 := by decide +kernel
  show step (steps a33M a33V 52) (kL.getD 52 0) (sch a33M 52) = _
  rw [a33_s52, a33_w52]
  unfold step
  rw [h1, h2]
  rfl
theorem a33_s54 : steps a33M a33V 54 = ⟨2460871740#32, 896875633#32, 3273376837#32, 213253259#32, 4196726312#32, 3882842772#32, 2531601188#32, 1445516351#32⟩ := by
  have h1 : t1 ⟨896875633#32, 3273376837#32, 213253259#32, 3872532109#32, 3882842772#32, 2531601188#32, 1445516351#32, 2361067288#32⟩ (kL.getD 53 0) 3936179604#32 = 324194203#32 := by decide +kernel
  have h2 : t2 ⟨896875633#32, 3273376837#32, 213253259#32, 3872532109#32, 3882842772#32, 2531601188#32, 1445516351#32, 2361067288#32⟩ = 2136677537#32 := by decide +kernel
  show step (steps a33M a33V 53) (kL.getD 53 0) (sch a33M 53) = _
  rw [a33_s53, a33_w53]
  unfold step
  rw [h1, h2]
  rfl
theorem a33_s55 : steps a33M a33V 55 = ⟨474950666#32, 2460871740#32, 896875633#32, 3273376837#32, 2731024374#32, 4196726312#32, 3882842772#32, 2531601188#32⟩ := by
  have h1 : t1 ⟨2460871740#32, 896875633#32, 3273376837#32, 213253259#32, 4196726312#32, 3882842772#32, 2531601188#32, 1445516351#32⟩ (kL.getD 54 0) 2296006302#32 = 2517771115#32 := by decide +kernel
  have h2 : t2 ⟨2460871740#32, 896875633#32, 3273376837#32, 213253259#32, 4196726312#32, 3882842772#32, 2531601188#32, 1445516351#32⟩ = 2252146847#32 := by decide +kernel
  show step (steps a33M a33V 54) (kL.getD 54 0) (sch a33M 54) = _
  rw [a33_s54, a33_w54]
  unfold step
  rw [h1, h2]
  rfl
theorem a33_s56 : steps a33M a33V 56 = ⟨775655531#32, 474950666#32, 2460871740#32, 896875633#32, 16197486#32, 2731024374#32, 4196726312#32, 3882842772#32⟩ := by
  have h1 : t1 ⟨474950666#32, 2460871740#32, 896875633#32, 3273376837#32, 2731024374#32, 4196726312#32, 3882842772#32, 2531601188#32⟩ (kL.getD 55 0) 391106501#32 = 1037787945#32 := by decide +kernel
  have h2 : t2 ⟨474950666#32, 2460871740#32, 896875633#32, 3273376837#32, 2731024374#32, 4196726312#32, 3882842772#32, 2531601188#32⟩ = 4032834882#32 := by decide +kernel
  show step (steps a33M a33V 55) (kL.getD 55 0) (sch a33M 55) = _
  rw [a33_s55, a33_w55]
  unfold step
  rw [h1, h2]
  rfl
theorem a33_s57 : steps a33M a33V 57 = ⟨585145761#32, 775655531#32, 474950666#32, 2460871740#32, 2475684970#32, 16197486#32, 2731024374#32, 4196726312#32⟩ := by
  have h1 : t1 ⟨775655531#32, 474950666#32, 2460871740#32, 896875633#32, 16197486#32, 2731024374#32, 4196726312#32, 3882842772#32⟩ (kL.getD 56 0) 3641339288#32 = 1578809337#32 := by decide +kernel
  have h2 : t2 ⟨775655531#32, 474950666#32, 2460871740#32, 896875633#32, 16197486#32, 2731024374#32, 4196726312#32, 3882842772#32⟩ = 3301303720#32 := by decide +kernel
  show step (steps a33M a33V 56) (kL.getD 56 0) (sch a33M 56) = _
  rw [a33_s56, a33_w56]
  unfold step
  rw [h1, h2]
  rfl
theorem a33_s58 : steps a33M a33V 58 = ⟨3931373137#32, 585145761#32, 775655531#32, 474950666#32, 651073915#32, 2475684970#32, 16197486#32, 2731024374#32⟩ := by
  have h1 : t1 ⟨585145761#32, 775655531#32, 474950666#32, 2460871740#32, 2475684970#32, 16197486#32, 2731024374#32, 4196726312#32⟩ (kL.getD 57 0) 531146820#32 = 2485169471#32 := by decide +kernel
  have h2 : t2 ⟨585145761#32, 775655531#32, 474950666#32, 2460871740#32, 2475684970#32, 16197486#32, 2731024374#32, 4196726312#32⟩ = 1446203666#32 := by decide +kernel
  show step (steps a33M a33V 57) (kL.getD 57 0) (sch a33M 57) = _
  rw [a33_s57, a33_w57]
  unfold step
  rw [h1, h2]
  rfl
theorem a33_s59 : steps a33M a33V 59 = ⟨1661818060#32, 3931373137#32, 585145761#32, 775655531#32, 2365979091#32, 651073915#32, 2475684970#32, 16197486#32⟩ := by
  have h1 : t1 ⟨3931373137#32, 585145761#32, 775655531#32, 474950666#32, 651073915#32, 2475684970#32, 16197486#32, 2731024374#32⟩ (kL.getD 58 0) 2712871212#32 = 1891028425#32 := by decide +kernel
  have h2 : t2 ⟨3931373137#32, 585145761#32, 775655531#32, 474950666#32, 651073915#32, 2475684970#32, 16197486#32, 2731024374#32⟩ = 4065756931#32 := by decide +kernel
  show step (steps a33M a33V 58) (kL.getD 58 0) (sch a33M 58) = _
  rw [a33_s58, a33_w58]
  unfold step
  rw [h1, h2]
  rfl
theorem a33_s60 : steps a33M a33V 60 = ⟨246468591#32, 1661818060#32, 3931373137#32, 585145761#32, 1320617668#32, 2365979091#32, 651073915#32, 2475684970#32⟩ := by
  have h1 : t1 ⟨1661818060#32, 3931373137#32, 585145761#32, 775655531#32, 2365979091#32, 651073915#32, 2475684970#32, 16197486#32⟩ (kL.getD 59 0) 2239058122#32 = 544962137#32 := by decide +kernel
  have h2 : t2 ⟨1661818060#32, 3931373137#32, 585145761#32, 775655531#32, 2365979091#32, 651073915#32, 2475684970#32, 16197486#32⟩ = 3996473750#32 := by decide +kernel
  show step (steps a33M a33V 59) (kL.getD 59 0) (sch a33M 59) = _
  rw [a33_s59, a33_w59]
  unfold step
  rw [h1, h2]
  rfl
theorem a33_s61 : steps a33M a33V 61 = ⟨45588402#32, 246468591#32, 1661818060#32, 3931373137#32, 999973951#32, 1320617668#32, 2365979091#32, 651073915#32⟩ := by
  have h1 : t1 ⟨246468591#32, 1661818060#32, 3931373137#32, 585145761#32, 1320617668#32, 2365979091#32, 651073915#32, 2475684970#32⟩ (kL.getD 60 0) 904712035#32 = 414828190#32 := by decide +kernel
  have h2 : t2 ⟨246468591#32, 1661818060#32, 3931373137#32, 585145761#32, 1320617668#32, 2365979091#32, 651073915#32, 2475684970#32⟩ = 3925727508#32 := by decide +kernel
  show step (steps a33M a33V 60) (kL.getD 60 0) (sch a33M 60) = _
  rw [a33_s60, a33_w60]
  unfold step
  rw [h1, h2]
  rfl
theorem a33_s62 : steps a33M a33V 62 = ⟨1512722628#32, 45588402#32, 246468591#32, 1661818060#32, 2659529933#32, 999973951#32, 1320617668#32, 2365979091#32⟩ := by
  have h1 : t1 ⟨45588402#32, 246468591#32, 1661818060#32, 3931373137#32, 999973951#32, 1320617668#32, 2365979091#32, 651073915#32⟩ (kL.getD 61 0) 2755628305#32 = 3023124092#32 := by decide +kernel
  have h2 : t2 ⟨45588402#32, 246468591#32, 1661818060#32, 3931373137#32, 999973951#32, 1320617668#32, 2365979091#32, 651073915#32⟩ = 2784565832#32 := by decide +kernel
  show step (steps a33M a33V 61) (kL.getD 61 0) (sch a33M 61) = _
  rw [a33_s61, a33_w61]
  unfold step
  rw [h1, h2]
  rfl
theorem a33_s63 : steps a33M a33V 63 = ⟨3637404137#32, 1512722628#32, 45588402#32, 246468591#32, 4148003524#32, 2659529933#32, 999973951#32, 1320617668#32⟩ := by
  have h1 : t1 ⟨1512722628#32, 45588402#32, 246468591#32, 1661818060#32, 2659529933#32, 999973951#32, 1320617668#32, 2365979091#32⟩ (kL.getD 62 0) 2803559#32 = 2486185464#32 := by decide +kernel
  have h2 : t2 ⟨1512722628#32, 45588402#32, 246468591#32, 1661818060#32, 2659529933#32, 999973951#32, 1320617668#32, 2365979091#32⟩ = 1151218673#32 := by decide +kernel
  show step (steps a33M a33V 62) (kL.getD 62 0) (sch a33M 62) = _
  rw [a33_s62, a33_w62]
  unfold step
  rw [h1, h2]
  rfl
theorem a33_s64 : steps a33M a33V 64 = ⟨1965040751#32, 3637404137#32, 1512722628#32, 45588402#32, 3894913300#32, 4148003524#32, 2659529933#32, 999973951#32⟩ := by
  have h1 : t1 ⟨3637404137#32, 1512722628#32, 45588402#32, 246468591#32, 4148003524#32, 2659529933#32, 999973951#32, 1320617668#32⟩ (kL.getD 63 0) 1346601136#32 = 3648444709#32 := by decide +kernel
  have h2 : t2 ⟨3637404137#32, 1512722628#32, 45588402#32, 246468591#32, 4148003524#32, 2659529933#32, 999973951#32, 1320617668#32⟩ = 2611563338#32 := by decide +kernel
  show step (steps a33M a33V 63) (kL.getD 63 0) (sch a33M 63) = _
  rw [a33_s63, a33_w63]
  unfold step
  rw [h1, h2]
  rfl
theorem a33_run : run (pad a33L) 1 = ⟨3744074454#32, 2486571118#32, 2526626870#32, 2819069164#32, 959839123#32, 2453859152#32, 3188264568#32, 2541433176#32⟩ := by
  rw [a33_pad]
  show add8 a33V (steps a33M a33V 64) = _
  rw [a33_s64]
  rfl
theorem a33_top : top (sum a33L) 8 = 16080677336205627502#64 := by
  have e : sum a33L = out ⟨3744074454#32, 2486571118#32, 2526626870#32, 2819069164#32, 959839123#32, 2453859152#32, 3188264568#32, 2541433176#32⟩ := by
    unfold sum
    rw [show (pad a33L).length / 64 = 1 by rw [a33_pad]; rfl, a33_run]
  rw [e]
  decide +kernel
end Go.Proofs.YtcedecljbgailaaDoor.Dg

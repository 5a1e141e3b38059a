/- Law gossamerlaw12.UrlDrives: its cases, part 3. -/
import Derived.Test.YtghiaehfbajidaaGreatDoorFin
set_option linter.unusedVariables false
set_option maxRecDepth 100000
namespace Go.Proofs.YtghiaehfbajidaaGreatDoor
open Go Go.Proofs Go.RowKit Go.Ev
theorem urlDrives_c134 : @callK (slI [(0, 5, 3), (1, 4, 2), (2, 5, 4)]) Tryz.prog X1 100000 60 3 [.sym 0, .bool false, .sym 1, .sym 2] (.mk .leaf 4 4) (fin 4) = .yes := by kernel_rfl
theorem urlDrives_c135 : @callK (slI [(0, 5, 3), (1, 4, 3), (2, 5, 0)]) Tryz.prog X1 100000 60 3 [.sym 0, .bool false, .sym 1, .sym 2] (.mk .leaf 4 4) (fin 4) = .yes := by kernel_rfl
theorem urlDrives_c136 : @callK (slI [(0, 5, 3), (1, 4, 3), (2, 5, 1)]) Tryz.prog X1 100000 60 3 [.sym 0, .bool false, .sym 1, .sym 2] (.mk .leaf 4 4) (fin 4) = .yes := by kernel_rfl
theorem urlDrives_c137 : @callK (slI [(0, 5, 3), (1, 4, 3), (2, 5, 2)]) Tryz.prog X1 100000 60 3 [.sym 0, .bool false, .sym 1, .sym 2] (.mk .leaf 4 4) (fin 4) = .yes := by kernel_rfl
theorem urlDrives_c138 : @callK (slI [(0, 5, 3), (1, 4, 3), (2, 5, 3)]) Tryz.prog X1 100000 60 3 [.sym 0, .bool false, .sym 1, .sym 2] (.mk .leaf 4 4) (fin 4) = .yes := by kernel_rfl
theorem urlDrives_c139 : @callK (slI [(0, 5, 3), (1, 4, 3), (2, 5, 4)]) Tryz.prog X1 100000 60 3 [.sym 0, .bool false, .sym 1, .sym 2] (.mk .leaf 4 4) (fin 4) = .yes := by kernel_rfl
theorem urlDrives_c140 : @callK (slI [(0, 5, 3), (1, 4, 0), (2, 5, 0)]) Tryz.prog X1 100000 60 3 [.sym 0, .bool true, .sym 1, .sym 2] (.mk .leaf 4 4) (fin 4) = .yes := by kernel_rfl
theorem urlDrives_c141 : @callK (slI [(0, 5, 3), (1, 4, 0), (2, 5, 1)]) Tryz.prog X1 100000 60 3 [.sym 0, .bool true, .sym 1, .sym 2] (.mk .leaf 4 4) (fin 4) = .yes := by kernel_rfl
theorem urlDrives_c142 : @callK (slI [(0, 5, 3), (1, 4, 0), (2, 5, 2)]) Tryz.prog X1 100000 60 3 [.sym 0, .bool true, .sym 1, .sym 2] (.mk .leaf 4 4) (fin 4) = .yes := by kernel_rfl
theorem urlDrives_c143 : @callK (slI [(0, 5, 3), (1, 4, 0), (2, 5, 3)]) Tryz.prog X1 100000 60 3 [.sym 0, .bool true, .sym 1, .sym 2] (.mk .leaf 4 4) (fin 4) = .yes := by kernel_rfl
theorem urlDrives_c144 : @callK (slI [(0, 5, 3), (1, 4, 0), (2, 5, 4)]) Tryz.prog X1 100000 60 3 [.sym 0, .bool true, .sym 1, .sym 2] (.mk .leaf 4 4) (fin 4) = .yes := by kernel_rfl
theorem urlDrives_c145 : @callK (slI [(0, 5, 3), (1, 4, 1), (2, 5, 0)]) Tryz.prog X1 100000 60 3 [.sym 0, .bool true, .sym 1, .sym 2] (.mk .leaf 4 4) (fin 4) = .yes := by kernel_rfl
theorem urlDrives_c146 : @callK (slI [(0, 5, 3), (1, 4, 1), (2, 5, 1)]) Tryz.prog X1 100000 60 3 [.sym 0, .bool true, .sym 1, .sym 2] (.mk .leaf 4 4) (fin 4) = .yes := by kernel_rfl
theorem urlDrives_c147 : @callK (slI [(0, 5, 3), (1, 4, 1), (2, 5, 2)]) Tryz.prog X1 100000 60 3 [.sym 0, .bool true, .sym 1, .sym 2] (.mk .leaf 4 4) (fin 4) = .yes := by kernel_rfl
theorem urlDrives_c148 : @callK (slI [(0, 5, 3), (1, 4, 1), (2, 5, 3)]) Tryz.prog X1 100000 60 3 [.sym 0, .bool true, .sym 1, .sym 2] (.mk .leaf 4 4) (fin 4) = .yes := by kernel_rfl
theorem urlDrives_c149 : @callK (slI [(0, 5, 3), (1, 4, 1), (2, 5, 4)]) Tryz.prog X1 100000 60 3 [.sym 0, .bool true, .sym 1, .sym 2] (.mk .leaf 4 4) (fin 4) = .yes := by kernel_rfl
theorem urlDrives_c150 : @callK (slI [(0, 5, 3), (1, 4, 2), (2, 5, 0)]) Tryz.prog X1 100000 60 3 [.sym 0, .bool true, .sym 1, .sym 2] (.mk .leaf 4 4) (fin 4) = .yes := by kernel_rfl
theorem urlDrives_c151 : @callK (slI [(0, 5, 3), (1, 4, 2), (2, 5, 1)]) Tryz.prog X1 100000 60 3 [.sym 0, .bool true, .sym 1, .sym 2] (.mk .leaf 4 4) (fin 4) = .yes := by kernel_rfl
theorem urlDrives_c152 : @callK (slI [(0, 5, 3), (1, 4, 2), (2, 5, 2)]) Tryz.prog X1 100000 60 3 [.sym 0, .bool true, .sym 1, .sym 2] (.mk .leaf 4 4) (fin 4) = .yes := by kernel_rfl
theorem urlDrives_c153 : @callK (slI [(0, 5, 3), (1, 4, 2), (2, 5, 3)]) Tryz.prog X1 100000 60 3 [.sym 0, .bool true, .sym 1, .sym 2] (.mk .leaf 4 4) (fin 4) = .yes := by kernel_rfl
theorem urlDrives_c154 : @callK (slI [(0, 5, 3), (1, 4, 2), (2, 5, 4)]) Tryz.prog X1 100000 60 3 [.sym 0, .bool true, .sym 1, .sym 2] (.mk .leaf 4 4) (fin 4) = .yes := by kernel_rfl
theorem urlDrives_c155 : @callK (slI [(0, 5, 3), (1, 4, 3), (2, 5, 0)]) Tryz.prog X1 100000 60 3 [.sym 0, .bool true, .sym 1, .sym 2] (.mk .leaf 4 4) (fin 4) = .yes := by kernel_rfl
theorem urlDrives_c156 : @callK (slI [(0, 5, 3), (1, 4, 3), (2, 5, 1)]) Tryz.prog X1 100000 60 3 [.sym 0, .bool true, .sym 1, .sym 2] (.mk .leaf 4 4) (fin 4) = .yes := by kernel_rfl
theorem urlDrives_c157 : @callK (slI [(0, 5, 3), (1, 4, 3), (2, 5, 2)]) Tryz.prog X1 100000 60 3 [.sym 0, .bool true, .sym 1, .sym 2] (.mk .leaf 4 4) (fin 4) = .yes := by kernel_rfl
theorem urlDrives_c158 : @callK (slI [(0, 5, 3), (1, 4, 3), (2, 5, 3)]) Tryz.prog X1 100000 60 3 [.sym 0, .bool true, .sym 1, .sym 2] (.mk .leaf 4 4) (fin 4) = .yes := by kernel_rfl
theorem urlDrives_c159 : @callK (slI [(0, 5, 3), (1, 4, 3), (2, 5, 4)]) Tryz.prog X1 100000 60 3 [.sym 0, .bool true, .sym 1, .sym 2] (.mk .leaf 4 4) (fin 4) = .yes := by kernel_rfl
theorem urlDrives_c160 : @callK (slI [(0, 5, 4), (1, 4, 0), (2, 5, 0)]) Tryz.prog X1 100000 60 3 [.sym 0, .bool false, .sym 1, .sym 2] (.mk .leaf 4 4) (fin 4) = .yes := by kernel_rfl
theorem urlDrives_c161 : @callK (slI [(0, 5, 4), (1, 4, 0), (2, 5, 1)]) Tryz.prog X1 100000 60 3 [.sym 0, .bool false, .sym 1, .sym 2] (.mk .leaf 4 4) (fin 4) = .yes := by kernel_rfl
theorem urlDrives_c162 : @callK (slI [(0, 5, 4), (1, 4, 0), (2, 5, 2)]) Tryz.prog X1 100000 60 3 [.sym 0, .bool false, .sym 1, .sym 2] (.mk .leaf 4 4) (fin 4) = .yes := by kernel_rfl
theorem urlDrives_c163 : @callK (slI [(0, 5, 4), (1, 4, 0), (2, 5, 3)]) Tryz.prog X1 100000 60 3 [.sym 0, .bool false, .sym 1, .sym 2] (.mk .leaf 4 4) (fin 4) = .yes := by kernel_rfl
theorem urlDrives_c164 : @callK (slI [(0, 5, 4), (1, 4, 0), (2, 5, 4)]) Tryz.prog X1 100000 60 3 [.sym 0, .bool false, .sym 1, .sym 2] (.mk .leaf 4 4) (fin 4) = .yes := by kernel_rfl
theorem urlDrives_c165 : @callK (slI [(0, 5, 4), (1, 4, 1), (2, 5, 0)]) Tryz.prog X1 100000 60 3 [.sym 0, .bool false, .sym 1, .sym 2] (.mk .leaf 4 4) (fin 4) = .yes := by kernel_rfl
theorem urlDrives_c166 : @callK (slI [(0, 5, 4), (1, 4, 1), (2, 5, 1)]) Tryz.prog X1 100000 60 3 [.sym 0, .bool false, .sym 1, .sym 2] (.mk .leaf 4 4) (fin 4) = .yes := by kernel_rfl
theorem urlDrives_c167 : @callK (slI [(0, 5, 4), (1, 4, 1), (2, 5, 2)]) Tryz.prog X1 100000 60 3 [.sym 0, .bool false, .sym 1, .sym 2] (.mk .leaf 4 4) (fin 4) = .yes := by kernel_rfl
theorem urlDrives_c168 : @callK (slI [(0, 5, 4), (1, 4, 1), (2, 5, 3)]) Tryz.prog X1 100000 60 3 [.sym 0, .bool false, .sym 1, .sym 2] (.mk .leaf 4 4) (fin 4) = .yes := by kernel_rfl
theorem urlDrives_c169 : @callK (slI [(0, 5, 4), (1, 4, 1), (2, 5, 4)]) Tryz.prog X1 100000 60 3 [.sym 0, .bool false, .sym 1, .sym 2] (.mk .leaf 4 4) (fin 4) = .yes := by kernel_rfl
theorem urlDrives_c170 : @callK (slI [(0, 5, 4), (1, 4, 2), (2, 5, 0)]) Tryz.prog X1 100000 60 3 [.sym 0, .bool false, .sym 1, .sym 2] (.mk .leaf 4 4) (fin 4) = .yes := by kernel_rfl
theorem urlDrives_c171 : @callK (slI [(0, 5, 4), (1, 4, 2), (2, 5, 1)]) Tryz.prog X1 100000 60 3 [.sym 0, .bool false, .sym 1, .sym 2] (.mk .leaf 4 4) (fin 4) = .yes := by kernel_rfl
theorem urlDrives_c172 : @callK (slI [(0, 5, 4), (1, 4, 2), (2, 5, 2)]) Tryz.prog X1 100000 60 3 [.sym 0, .bool false, .sym 1, .sym 2] (.mk .leaf 4 4) (fin 4) = .yes := by kernel_rfl
theorem urlDrives_c173 : @callK (slI [(0, 5, 4), (1, 4, 2), (2, 5, 3)]) Tryz.prog X1 100000 60 3 [.sym 0, .bool false, .sym 1, .sym 2] (.mk .leaf 4 4) (fin 4) = .yes := by kernel_rfl
theorem urlDrives_c174 : @callK (slI [(0, 5, 4), (1, 4, 2), (2, 5, 4)]) Tryz.prog X1 100000 60 3 [.sym 0, .bool false, .sym 1, .sym 2] (.mk .leaf 4 4) (fin 4) = .yes := by kernel_rfl
theorem urlDrives_c175 : @callK (slI [(0, 5, 4), (1, 4, 3), (2, 5, 0)]) Tryz.prog X1 100000 60 3 [.sym 0, .bool false, .sym 1, .sym 2] (.mk .leaf 4 4) (fin 4) = .yes := by kernel_rfl
theorem urlDrives_c176 : @callK (slI [(0, 5, 4), (1, 4, 3), (2, 5, 1)]) Tryz.prog X1 100000 60 3 [.sym 0, .bool false, .sym 1, .sym 2] (.mk .leaf 4 4) (fin 4) = .yes := by kernel_rfl
theorem urlDrives_c177 : @callK (slI [(0, 5, 4), (1, 4, 3), (2, 5, 2)]) Tryz.prog X1 100000 60 3 [.sym 0, .bool false, .sym 1, .sym 2] (.mk .leaf 4 4) (fin 4) = .yes := by kernel_rfl
theorem urlDrives_c178 : @callK (slI [(0, 5, 4), (1, 4, 3), (2, 5, 3)]) Tryz.prog X1 100000 60 3 [.sym 0, .bool false, .sym 1, .sym 2] (.mk .leaf 4 4) (fin 4) = .yes := by kernel_rfl
theorem urlDrives_c179 : @callK (slI [(0, 5, 4), (1, 4, 3), (2, 5, 4)]) Tryz.prog X1 100000 60 3 [.sym 0, .bool false, .sym 1, .sym 2] (.mk .leaf 4 4) (fin 4) = .yes := by kernel_rfl
theorem urlDrives_c180 : @callK (slI [(0, 5, 4), (1, 4, 0), (2, 5, 0)]) Tryz.prog X1 100000 60 3 [.sym 0, .bool true, .sym 1, .sym 2] (.mk .leaf 4 4) (fin 4) = .yes := by kernel_rfl
theorem urlDrives_c181 : @callK (slI [(0, 5, 4), (1, 4, 0), (2, 5, 1)]) Tryz.prog X1 100000 60 3 [.sym 0, .bool true, .sym 1, .sym 2] (.mk .leaf 4 4) (fin 4) = .yes := by kernel_rfl
theorem urlDrives_c182 : @callK (slI [(0, 5, 4), (1, 4, 0), (2, 5, 2)]) Tryz.prog X1 100000 60 3 [.sym 0, .bool true, .sym 1, .sym 2] (.mk .leaf 4 4) (fin 4) = .yes := by kernel_rfl
theorem urlDrives_c183 : @callK (slI [(0, 5, 4), (1, 4, 0), (2, 5, 3)]) Tryz.prog X1 100000 60 3 [.sym 0, .bool true, .sym 1, .sym 2] (.mk .leaf 4 4) (fin 4) = .yes := by kernel_rfl
theorem urlDrives_c184 : @callK (slI [(0, 5, 4), (1, 4, 0), (2, 5, 4)]) Tryz.prog X1 100000 60 3 [.sym 0, .bool true, .sym 1, .sym 2] (.mk .leaf 4 4) (fin 4) = .yes := by kernel_rfl
theorem urlDrives_c185 : @callK (slI [(0, 5, 4), (1, 4, 1), (2, 5, 0)]) Tryz.prog X1 100000 60 3 [.sym 0, .bool true, .sym 1, .sym 2] (.mk .leaf 4 4) (fin 4) = .yes := by kernel_rfl
theorem urlDrives_c186 : @callK (slI [(0, 5, 4), (1, 4, 1), (2, 5, 1)]) Tryz.prog X1 100000 60 3 [.sym 0, .bool true, .sym 1, .sym 2] (.mk .leaf 4 4) (fin 4) = .yes := by kernel_rfl
theorem urlDrives_c187 : @callK (slI [(0, 5, 4), (1, 4, 1), (2, 5, 2)]) Tryz.prog X1 100000 60 3 [.sym 0, .bool true, .sym 1, .sym 2] (.mk .leaf 4 4) (fin 4) = .yes := by kernel_rfl
theorem urlDrives_c188 : @callK (slI [(0, 5, 4), (1, 4, 1), (2, 5, 3)]) Tryz.prog X1 100000 60 3 [.sym 0, .bool true, .sym 1, .sym 2] (.mk .leaf 4 4) (fin 4) = .yes := by kernel_rfl
theorem urlDrives_c189 : @callK (slI [(0, 5, 4), (1, 4, 1), (2, 5, 4)]) Tryz.prog X1 100000 60 3 [.sym 0, .bool true, .sym 1, .sym 2] (.mk .leaf 4 4) (fin 4) = .yes := by kernel_rfl
theorem urlDrives_c190 : @callK (slI [(0, 5, 4), (1, 4, 2), (2, 5, 0)]) Tryz.prog X1 100000 60 3 [.sym 0, .bool true, .sym 1, .sym 2] (.mk .leaf 4 4) (fin 4) = .yes := by kernel_rfl
theorem urlDrives_c191 : @callK (slI [(0, 5, 4), (1, 4, 2), (2, 5, 1)]) Tryz.prog X1 100000 60 3 [.sym 0, .bool true, .sym 1, .sym 2] (.mk .leaf 4 4) (fin 4) = .yes := by kernel_rfl
theorem urlDrives_c192 : @callK (slI [(0, 5, 4), (1, 4, 2), (2, 5, 2)]) Tryz.prog X1 100000 60 3 [.sym 0, .bool true, .sym 1, .sym 2] (.mk .leaf 4 4) (fin 4) = .yes := by kernel_rfl
theorem urlDrives_c193 : @callK (slI [(0, 5, 4), (1, 4, 2), (2, 5, 3)]) Tryz.prog X1 100000 60 3 [.sym 0, .bool true, .sym 1, .sym 2] (.mk .leaf 4 4) (fin 4) = .yes := by kernel_rfl
theorem urlDrives_c194 : @callK (slI [(0, 5, 4), (1, 4, 2), (2, 5, 4)]) Tryz.prog X1 100000 60 3 [.sym 0, .bool true, .sym 1, .sym 2] (.mk .leaf 4 4) (fin 4) = .yes := by kernel_rfl
theorem urlDrives_c195 : @callK (slI [(0, 5, 4), (1, 4, 3), (2, 5, 0)]) Tryz.prog X1 100000 60 3 [.sym 0, .bool true, .sym 1, .sym 2] (.mk .leaf 4 4) (fin 4) = .yes := by kernel_rfl
theorem urlDrives_c196 : @callK (slI [(0, 5, 4), (1, 4, 3), (2, 5, 1)]) Tryz.prog X1 100000 60 3 [.sym 0, .bool true, .sym 1, .sym 2] (.mk .leaf 4 4) (fin 4) = .yes := by kernel_rfl
theorem urlDrives_c197 : @callK (slI [(0, 5, 4), (1, 4, 3), (2, 5, 2)]) Tryz.prog X1 100000 60 3 [.sym 0, .bool true, .sym 1, .sym 2] (.mk .leaf 4 4) (fin 4) = .yes := by kernel_rfl
theorem urlDrives_c198 : @callK (slI [(0, 5, 4), (1, 4, 3), (2, 5, 3)]) Tryz.prog X1 100000 60 3 [.sym 0, .bool true, .sym 1, .sym 2] (.mk .leaf 4 4) (fin 4) = .yes := by kernel_rfl
theorem urlDrives_c199 : @callK (slI [(0, 5, 4), (1, 4, 3), (2, 5, 4)]) Tryz.prog X1 100000 60 3 [.sym 0, .bool true, .sym 1, .sym 2] (.mk .leaf 4 4) (fin 4) = .yes := by kernel_rfl
end Go.Proofs.YtghiaehfbajidaaGreatDoor

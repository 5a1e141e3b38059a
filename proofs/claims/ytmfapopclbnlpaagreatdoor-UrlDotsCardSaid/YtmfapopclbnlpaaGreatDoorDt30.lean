import Derived.Test.YtmfapopclbnlpaaGreatDoorProg
import Derived.ProofKit
import Derived.Test.YtmfapopclbnlpaaGreatDoorDt6
import Derived.Test.YtmfapopclbnlpaaGreatDoorDt18
import Derived.Test.YtmfapopclbnlpaaGreatDoorDt19
import Derived.Test.YtmfapopclbnlpaaGreatDoorDt20
import Derived.Test.YtmfapopclbnlpaaGreatDoorDt25
import Derived.Test.YtmfapopclbnlpaaGreatDoorDt28
import Derived.Test.YtmfapopclbnlpaaGreatDoorDt29
set_option linter.unusedVariables false
set_option linter.unusedSimpArgs false
set_option maxRecDepth 100000
set_option maxHeartbeats 4000000
namespace Go.Proofs.YtmfapopclbnlpaaGreatDoor
open Go Go.Proofs Go.RowKit Go.Vc
section
def yv:cw:=bO [(75,jT),(76,nY),(91,lA),(92,ib),(77,gU),(78,db)]
def yw(sc us pw:Bs)(hk:Int)(hs:Bs)(hn:Int)(hp:List Int)(port:Int)(pn:Bool)(pl:List Bs)(hq:Bool)(q:Bs)(hf:Bool)(fg:Bs)(bare sp:Bool)(rst:Bs)(bsc bus bpw:Bs)(bhk:Int)(bhs:Bs)(bhn:Int)(bhp:List Int)(bport:Int)(bopq bpn:Bool)(bpl:List Bs)(bhq:Bool)(bq:Bs)(bhf:Bool)(bfg:Bs):aX:=fun i=>none
theorem yx:cW Tryz.prog az yv:=ai qL (ai vI (ai r9 (ai nT (ai j3 (ai cK (ax))))))
theorem DY(sc us pw:Bs)(hk:Int)(hs:Bs)(hn:Int)(hp:List Int)(port:Int)(pn:Bool)(pl:List Bs)(hq:Bool)(q:Bs)(hf:Bool)(fg:Bs)(bare sp:Bool)(rst:Bs)(bsc bus bpw:Bs)(bhk:Int)(bhs:Bs)(bhn:Int)(bhp:List Int)(bport:Int)(bopq bpn:Bool)(bpl:List Bs)(bhq:Bool)(bq:Bs)(bhf:Bool)(bfg:Bs)(k:PV→List PV→Prop):bL Tryz.prog yv az (yw sc us pw hk hs hn hp port pn pl hq q hf fg bare sp rst bsc bus bpw bhk bhs bhn bhp bport bopq bpn bpl bhq bq bhf bfg) 1000 Tryz.f47 [.ptr 0 0] [aD 1 (.ptr 1 0) sc us pw hk hs hn hp port false pn pl hq q hf fg bare sp rst,bC 0 bsc bus bpw bhk bhs bhn bhp bport bopq bpn bpl bhq bq bhf bfg] k=(
 (List.length rst≤(300000:Nat)∧
 (ab rst rst (0:Nat)).2.2=false∧
 bopq=false)∧
 ((!decide ((0:Int)=(0:Int)))=true→
 k (PV.int .i64 (0:Int)) [bT (PV.ptr (1:Nat) (0:Nat)) 1 bsc us pw hk hs hn hp port false pn pl hq q hf fg true (aw bsc) rst,bC (0:Nat) bsc bus bpw bhk bhs bhn bhp bport bopq bpn bpl bhq bq bhf bfg])∧
 ((!decide ((0:Int)=(0:Int)))=false→
 (false=true→
 (List.length rst).le (300000:Nat)∧
 (List.length (bG rst)).le (300000:Nat)∧
 k (PV.int .i64 (0:Int)) [bT (PV.ptr (1:Nat) (0:Nat)) 1 bsc us pw hk hs hn hp port false pn pl (dX rst hq) (dY (aw bsc) rst q) (dZ (bG rst) hf) (ee (bG rst) fg) true (aw bsc) (eh (bG rst)),bC (0:Nat) bsc bus bpw bhk bhs bhn bhp bport bopq bpn bpl bhq bq bhf bfg])∧
 (false=false→
 (decide (bsc=(ByteArray.mk #[102,105,108,101]).data.toList)=true→
 (List.length rst≤(300000:Nat)∧
 bpl.length≤(100000:Nat)∧
 aA (aw bsc) rst (0:Int)=false∧
 bQ rst=false∧
 bo rst=false∧
 bsc=bsc)∧
 ((!decide ((0:Int)=(0:Int)))=true→
 k (PV.int .i64 (0:Int)) [bT (PV.ptr (1:Nat) (0:Nat)) 1 bsc us pw (((RS.mk bsc us pw hk hs hn hp port false pn pl hq q hf fg true (aw bsc) rst).cc (RS.mk bsc bus bpw bhk bhs bhn bhp bport bopq bpn bpl bhq bq bhf bfg false false [])).hk) (((RS.mk bsc us pw hk hs hn hp port false pn pl hq q hf fg true (aw bsc) rst).cc (RS.mk bsc bus bpw bhk bhs bhn bhp bport bopq bpn bpl bhq bq bhf bfg false false [])).hs) (((RS.mk bsc us pw hk hs hn hp port false pn pl hq q hf fg true (aw bsc) rst).cc (RS.mk bsc bus bpw bhk bhs bhn bhp bport bopq bpn bpl bhq bq bhf bfg false false [])).hn) (((RS.mk bsc us pw hk hs hn hp port false pn pl hq q hf fg true (aw bsc) rst).cc (RS.mk bsc bus bpw bhk bhs bhn bhp bport bopq bpn bpl bhq bq bhf bfg false false [])).hp) port false (((RS.mk bsc us pw hk hs hn hp port false pn pl hq q hf fg true (aw bsc) rst).cc (RS.mk bsc bus bpw bhk bhs bhn bhp bport bopq bpn bpl bhq bq bhf bfg false false [])).pn) (((RS.mk bsc us pw hk hs hn hp port false pn pl hq q hf fg true (aw bsc) rst).cc (RS.mk bsc bus bpw bhk bhs bhn bhp bport bopq bpn bpl bhq bq bhf bfg false false [])).pl) hq q hf fg true (aw bsc) (((RS.mk bsc us pw hk hs hn hp port false pn pl hq q hf fg true (aw bsc) rst).cc (RS.mk bsc bus bpw bhk bhs bhn bhp bport bopq bpn bpl bhq bq bhf bfg false false [])).rst),bC (0:Nat) bsc bus bpw bhk bhs bhn bhp bport bopq bpn bpl bhq bq bhf bfg])∧
 ((!decide ((0:Int)=(0:Int)))=false→
 (List.length ((RS.mk bsc us pw hk hs hn hp port false pn pl hq q hf fg true (aw bsc) rst).cc (RS.mk bsc bus bpw bhk bhs bhn bhp bport bopq bpn bpl bhq bq bhf bfg false false [])).rst).le (300000:Nat)∧
 (List.length (bG ((RS.mk bsc us pw hk hs hn hp port false pn pl hq q hf fg true (aw bsc) rst).cc (RS.mk bsc bus bpw bhk bhs bhn bhp bport bopq bpn bpl bhq bq bhf bfg false false [])).rst)).le (300000:Nat)∧
 k (PV.int .i64 (0:Int)) [bT (PV.ptr (1:Nat) (0:Nat)) 1 bsc us pw (((RS.mk bsc us pw hk hs hn hp port false pn pl hq q hf fg true (aw bsc) rst).cc (RS.mk bsc bus bpw bhk bhs bhn bhp bport bopq bpn bpl bhq bq bhf bfg false false [])).hk) (((RS.mk bsc us pw hk hs hn hp port false pn pl hq q hf fg true (aw bsc) rst).cc (RS.mk bsc bus bpw bhk bhs bhn bhp bport bopq bpn bpl bhq bq bhf bfg false false [])).hs) (((RS.mk bsc us pw hk hs hn hp port false pn pl hq q hf fg true (aw bsc) rst).cc (RS.mk bsc bus bpw bhk bhs bhn bhp bport bopq bpn bpl bhq bq bhf bfg false false [])).hn) (((RS.mk bsc us pw hk hs hn hp port false pn pl hq q hf fg true (aw bsc) rst).cc (RS.mk bsc bus bpw bhk bhs bhn bhp bport bopq bpn bpl bhq bq bhf bfg false false [])).hp) port false (((RS.mk bsc us pw hk hs hn hp port false pn pl hq q hf fg true (aw bsc) rst).cc (RS.mk bsc bus bpw bhk bhs bhn bhp bport bopq bpn bpl bhq bq bhf bfg false false [])).pn) (((RS.mk bsc us pw hk hs hn hp port false pn pl hq q hf fg true (aw bsc) rst).cc (RS.mk bsc bus bpw bhk bhs bhn bhp bport bopq bpn bpl bhq bq bhf bfg false false [])).pl) (dX ((RS.mk bsc us pw hk hs hn hp port false pn pl hq q hf fg true (aw bsc) rst).cc (RS.mk bsc bus bpw bhk bhs bhn bhp bport bopq bpn bpl bhq bq bhf bfg false false [])).rst hq) (dY (aw bsc) ((RS.mk bsc us pw hk hs hn hp port false pn pl hq q hf fg true (aw bsc) rst).cc (RS.mk bsc bus bpw bhk bhs bhn bhp bport bopq bpn bpl bhq bq bhf bfg false false [])).rst q) (dZ (bG ((RS.mk bsc us pw hk hs hn hp port false pn pl hq q hf fg true (aw bsc) rst).cc (RS.mk bsc bus bpw bhk bhs bhn bhp bport bopq bpn bpl bhq bq bhf bfg false false [])).rst) hf) (ee (bG ((RS.mk bsc us pw hk hs hn hp port false pn pl hq q hf fg true (aw bsc) rst).cc (RS.mk bsc bus bpw bhk bhs bhn bhp bport bopq bpn bpl bhq bq bhf bfg false false [])).rst) fg) true (aw bsc) (eh (bG ((RS.mk bsc us pw hk hs hn hp port false pn pl hq q hf fg true (aw bsc) rst).cc (RS.mk bsc bus bpw bhk bhs bhn bhp bport bopq bpn bpl bhq bq bhf bfg false false [])).rst)),bC (0:Nat) bsc bus bpw bhk bhs bhn bhp bport bopq bpn bpl bhq bq bhf bfg]))∧
 (decide (bsc=(ByteArray.mk #[102,105,108,101]).data.toList)=false→
 (true=false→
 (aw bsc=true→
 bsc=bsc∧
 (false=false→
 true=true→
 True)∧
 ((!preB rst (ByteArray.mk #[47,47]).data.toList)=true→
 False)∧
 ((!preB rst (ByteArray.mk #[47,47]).data.toList)=false→
 (aw bsc=true→
 False)∧
 (aw bsc=false→
 False)))∧
 (aw bsc=!true→
 (false=false→
 false=true→
 True)∧
 (false=true→
 False)∧
 (false=false→
 (aw bsc=true→
 False)∧
 (aw bsc=false→
 False))))∧
 (true=!false→
 ((!false)=false→
 false=true→
 True)∧
 (true=true→
 False)∧
 (true=false→
 (aw bsc=true→
 False)∧
 (aw bsc=false→
 False))))))):=by kernel_rfl
attribute [local irreducible] Go.Vc.cG Go.Vc.bL
theorem yy(sc us pw:Bs)(hk:Int)(hs:Bs)(hn:Int)(hp:List Int)(port:Int)(pn:Bool)(pl:List Bs)(hq:Bool)(q:Bs)(hf:Bool)(fg:Bs)(bare sp:Bool)(rst:Bs)(bsc bus bpw:Bs)(bhk:Int)(bhs:Bs)(bhn:Int)(bhp:List Int)(bport:Int)(bopq bpn:Bool)(bpl:List Bs)(bhq:Bool)(bq:Bs)(bhf:Bool)(bfg:Bs):bh Tryz.prog az 47 [.ptr 0 0] [aD 1 (.ptr 1 0) sc us pw hk hs hn hp port false pn pl hq q hf fg bare sp rst,bC 0 bsc bus bpw bhk bhs bhn bhp bport bopq bpn bpl bhq bq bhf bfg] (rst.length≤300000∧bpl.length≤100000∧(ab rst rst 0).2.2=false∧bopq=false∧bsc=fL∧aA (aw bsc) rst 0=false∧bQ rst=false∧bo rst=false) (.int .i64 0) [aD 0 (.ptr 1 0) (((RS.mk sc us pw hk hs hn hp port false pn pl hq q hf fg bare sp rst).au (RS.mk bsc bus bpw bhk bhs bhn bhp bport bopq bpn bpl bhq bq bhf bfg false false [])).sc) (((RS.mk sc us pw hk hs hn hp port false pn pl hq q hf fg bare sp rst).au (RS.mk bsc bus bpw bhk bhs bhn bhp bport bopq bpn bpl bhq bq bhf bfg false false [])).us) (((RS.mk sc us pw hk hs hn hp port false pn pl hq q hf fg bare sp rst).au (RS.mk bsc bus bpw bhk bhs bhn bhp bport bopq bpn bpl bhq bq bhf bfg false false [])).pw) (((RS.mk sc us pw hk hs hn hp port false pn pl hq q hf fg bare sp rst).au (RS.mk bsc bus bpw bhk bhs bhn bhp bport bopq bpn bpl bhq bq bhf bfg false false [])).hk) (((RS.mk sc us pw hk hs hn hp port false pn pl hq q hf fg bare sp rst).au (RS.mk bsc bus bpw bhk bhs bhn bhp bport bopq bpn bpl bhq bq bhf bfg false false [])).hs) (((RS.mk sc us pw hk hs hn hp port false pn pl hq q hf fg bare sp rst).au (RS.mk bsc bus bpw bhk bhs bhn bhp bport bopq bpn bpl bhq bq bhf bfg false false [])).hn) (((RS.mk sc us pw hk hs hn hp port false pn pl hq q hf fg bare sp rst).au (RS.mk bsc bus bpw bhk bhs bhn bhp bport bopq bpn bpl bhq bq bhf bfg false false [])).hp) (((RS.mk sc us pw hk hs hn hp port false pn pl hq q hf fg bare sp rst).au (RS.mk bsc bus bpw bhk bhs bhn bhp bport bopq bpn bpl bhq bq bhf bfg false false [])).port) (((RS.mk sc us pw hk hs hn hp port false pn pl hq q hf fg bare sp rst).au (RS.mk bsc bus bpw bhk bhs bhn bhp bport bopq bpn bpl bhq bq bhf bfg false false [])).opq) (((RS.mk sc us pw hk hs hn hp port false pn pl hq q hf fg bare sp rst).au (RS.mk bsc bus bpw bhk bhs bhn bhp bport bopq bpn bpl bhq bq bhf bfg false false [])).pn) (((RS.mk sc us pw hk hs hn hp port false pn pl hq q hf fg bare sp rst).au (RS.mk bsc bus bpw bhk bhs bhn bhp bport bopq bpn bpl bhq bq bhf bfg false false [])).pl) (((RS.mk sc us pw hk hs hn hp port false pn pl hq q hf fg bare sp rst).au (RS.mk bsc bus bpw bhk bhs bhn bhp bport bopq bpn bpl bhq bq bhf bfg false false [])).hq) (((RS.mk sc us pw hk hs hn hp port false pn pl hq q hf fg bare sp rst).au (RS.mk bsc bus bpw bhk bhs bhn bhp bport bopq bpn bpl bhq bq bhf bfg false false [])).q) (((RS.mk sc us pw hk hs hn hp port false pn pl hq q hf fg bare sp rst).au (RS.mk bsc bus bpw bhk bhs bhn bhp bport bopq bpn bpl bhq bq bhf bfg false false [])).hf) (((RS.mk sc us pw hk hs hn hp port false pn pl hq q hf fg bare sp rst).au (RS.mk bsc bus bpw bhk bhs bhn bhp bport bopq bpn bpl bhq bq bhf bfg false false [])).fg) (((RS.mk sc us pw hk hs hn hp port false pn pl hq q hf fg bare sp rst).au (RS.mk bsc bus bpw bhk bhs bhn bhp bport bopq bpn bpl bhq bq bhf bfg false false [])).bare) (((RS.mk sc us pw hk hs hn hp port false pn pl hq q hf fg bare sp rst).au (RS.mk bsc bus bpw bhk bhs bhn bhp bport bopq bpn bpl bhq bq bhf bfg false false [])).sp) (((RS.mk sc us pw hk hs hn hp port false pn pl hq q hf fg bare sp rst).au (RS.mk bsc bus bpw bhk bhs bhn bhp bport bopq bpn bpl bhq bq bhf bfg false false [])).rst),bC 0 bsc bus bpw bhk bhs bhn bhp bport bopq bpn bpl bhq bq bhf bfg]:=uy (by kernel_rfl) yx (H:=yw sc us pw hk hs hn hp port pn pl hq q hf fg bare sp rst bsc bus bpw bhk bhs bhn bhp bport bopq bpn bpl bhq bq bhf bfg) (fuel:=1000) Tryz.func47 (by kernel_rfl) (Nat.le_of_ble_eq_true rfl) fun hpre=>(DY sc us pw hk hs hn hp port pn pl hq q hf fg bare sp rst bsc bus bpw bhk bhs bhn bhp bport bopq bpn bpl bhq bq bhf bfg _).mpr (by
 obtain ⟨h1,h2,h3,h4,h5,h6,h7,h8⟩:=hpre
 have hb:decide (bsc=(ByteArray.mk #[102,105,108,101]).data.toList)=true:=decide_eq_true h5
 have hr:((RS.mk bsc us pw hk hs hn hp port false pn pl hq q hf fg true (aw bsc) rst).cc (RS.mk bsc bus bpw bhk bhs bhn bhp bport bopq bpn bpl bhq bq bhf bfg false false [])).rst.length≤300000:=by
  show(aa rst _).length≤_
  unfold aa
  rw [List.length_drop];omega
 have e:(RS.mk sc us pw hk hs hn hp port false pn pl hq q hf fg bare sp rst).au (RS.mk bsc bus bpw bhk bhs bhn bhp bport bopq bpn bpl bhq bq bhf bfg false false [])=_:=gV _
 rw [e]
 exact ⟨⟨h1,h3,h4⟩,(fun h=>absurd h (by decide)),fun _=>⟨(fun h=>nomatch h),fun _=>⟨fun _=>⟨⟨h1,h2,h6,h7,h8,rfl⟩,(fun h=>absurd h (by decide)),fun _=>⟨hr,Nat.le_trans (iL _) hr,rfl,rfl⟩⟩,fun h=>absurd (h.symm.trans hb) nofun⟩⟩⟩)
end
section
attribute [local instance] KL
theorem vL(sc us pw:Bs)(hk:Int)(hs:Bs)(hn:Int)(hp:List Int)(port:Int)(hq:Bool)(q:Bs)(hf:Bool)(fg:Bs)(bare sp:Bool)(rst:Bs)(bsc bus bpw:Bs)(bhk:Int)(bhs:Bs)(bhn:Int)(bhp:List Int)(bport:Int)(bopq bpn:Bool)(bpl:List Bs)(bhq:Bool)(bq:Bs)(bhf:Bool)(bfg:Bs):bh Tryz.prog az 47 [.ptr 0 0] [aD 0 (.ptr 1 0) sc us pw hk hs hn hp port false true [] hq q hf fg bare sp rst,bC 0 bsc bus bpw bhk bhs bhn bhp bport bopq bpn bpl bhq bq bhf bfg] (rst.length≤300000∧bpl.length≤100000∧(ab rst rst 0).2.2=false∧bopq=false∧bsc=fL∧aA (aw bsc) rst 0=false∧bQ rst=false∧bo rst=false) (.int .i64 0) [aD 0 (.ptr 1 0) (((RS.mk sc us pw hk hs hn hp port false true ([]:List Bs) hq q hf fg bare sp rst).au (RS.mk bsc bus bpw bhk bhs bhn bhp bport bopq bpn bpl bhq bq bhf bfg false false [])).sc) (((RS.mk sc us pw hk hs hn hp port false true ([]:List Bs) hq q hf fg bare sp rst).au (RS.mk bsc bus bpw bhk bhs bhn bhp bport bopq bpn bpl bhq bq bhf bfg false false [])).us) (((RS.mk sc us pw hk hs hn hp port false true ([]:List Bs) hq q hf fg bare sp rst).au (RS.mk bsc bus bpw bhk bhs bhn bhp bport bopq bpn bpl bhq bq bhf bfg false false [])).pw) (((RS.mk sc us pw hk hs hn hp port false true ([]:List Bs) hq q hf fg bare sp rst).au (RS.mk bsc bus bpw bhk bhs bhn bhp bport bopq bpn bpl bhq bq bhf bfg false false [])).hk) (((RS.mk sc us pw hk hs hn hp port false true ([]:List Bs) hq q hf fg bare sp rst).au (RS.mk bsc bus bpw bhk bhs bhn bhp bport bopq bpn bpl bhq bq bhf bfg false false [])).hs) (((RS.mk sc us pw hk hs hn hp port false true ([]:List Bs) hq q hf fg bare sp rst).au (RS.mk bsc bus bpw bhk bhs bhn bhp bport bopq bpn bpl bhq bq bhf bfg false false [])).hn) (((RS.mk sc us pw hk hs hn hp port false true ([]:List Bs) hq q hf fg bare sp rst).au (RS.mk bsc bus bpw bhk bhs bhn bhp bport bopq bpn bpl bhq bq bhf bfg false false [])).hp) (((RS.mk sc us pw hk hs hn hp port false true ([]:List Bs) hq q hf fg bare sp rst).au (RS.mk bsc bus bpw bhk bhs bhn bhp bport bopq bpn bpl bhq bq bhf bfg false false [])).port) (((RS.mk sc us pw hk hs hn hp port false true ([]:List Bs) hq q hf fg bare sp rst).au (RS.mk bsc bus bpw bhk bhs bhn bhp bport bopq bpn bpl bhq bq bhf bfg false false [])).opq) (((RS.mk sc us pw hk hs hn hp port false true ([]:List Bs) hq q hf fg bare sp rst).au (RS.mk bsc bus bpw bhk bhs bhn bhp bport bopq bpn bpl bhq bq bhf bfg false false [])).pn) (((RS.mk sc us pw hk hs hn hp port false true ([]:List Bs) hq q hf fg bare sp rst).au (RS.mk bsc bus bpw bhk bhs bhn bhp bport bopq bpn bpl bhq bq bhf bfg false false [])).pl) (((RS.mk sc us pw hk hs hn hp port false true ([]:List Bs) hq q hf fg bare sp rst).au (RS.mk bsc bus bpw bhk bhs bhn bhp bport bopq bpn bpl bhq bq bhf bfg false false [])).hq) (((RS.mk sc us pw hk hs hn hp port false true ([]:List Bs) hq q hf fg bare sp rst).au (RS.mk bsc bus bpw bhk bhs bhn bhp bport bopq bpn bpl bhq bq bhf bfg false false [])).q) (((RS.mk sc us pw hk hs hn hp port false true ([]:List Bs) hq q hf fg bare sp rst).au (RS.mk bsc bus bpw bhk bhs bhn bhp bport bopq bpn bpl bhq bq bhf bfg false false [])).hf) (((RS.mk sc us pw hk hs hn hp port false true ([]:List Bs) hq q hf fg bare sp rst).au (RS.mk bsc bus bpw bhk bhs bhn bhp bport bopq bpn bpl bhq bq bhf bfg false false [])).fg) (((RS.mk sc us pw hk hs hn hp port false true ([]:List Bs) hq q hf fg bare sp rst).au (RS.mk bsc bus bpw bhk bhs bhn bhp bport bopq bpn bpl bhq bq bhf bfg false false [])).bare) (((RS.mk sc us pw hk hs hn hp port false true ([]:List Bs) hq q hf fg bare sp rst).au (RS.mk bsc bus bpw bhk bhs bhn bhp bport bopq bpn bpl bhq bq bhf bfg false false [])).sp) (((RS.mk sc us pw hk hs hn hp port false true ([]:List Bs) hq q hf fg bare sp rst).au (RS.mk bsc bus bpw bhk bhs bhn bhp bport bopq bpn bpl bhq bq bhf bfg false false [])).rst),bC 0 bsc bus bpw bhk bhs bhn bhp bport bopq bpn bpl bhq bq bhf bfg]:=fun hpre F w vs bs τ hF hT hw hb hτ hl hx=>
 yy sc us pw hk hs hn hp port true [] hq q hf fg bare sp rst bsc bus bpw bhk bhs bhn bhp bport bopq bpn bpl bhq bq bhf bfg hpre F w vs bs τ hF hT hw hb hτ ⟨hl.len,hl.nd,hl.bF,hl.mks,hl.inj,fun i x hx=>by
  match i,hx with
  |0,hx=>
   injection hx with hx
   subst hx
   obtain ⟨b,h1,u,e,fz,g1,g2,g3,g4,g5⟩:=hl.box 0 _ rfl
   exact ⟨b,h1,u,e,fz,g1,g2,aP.map (f:=DR) (fun y v _ hy=>yi hy) (fun y _=>yj y) g3,g4,g5⟩
  |1,hx=>exact hl.box 1 x hx
  |i+2,hx=>cases hx⟩ hx
theorem AI(sc us pw:Bs)(hk:Int)(hs:Bs)(hn:Int)(hp:List Int)(port:Int)(hq:Bool)(q:Bs)(hf:Bool)(fg:Bs)(bare sp:Bool)(rst:Bs)(bsc bus bpw:Bs)(bhk:Int)(bhs:Bs)(bhn:Int)(bhp:List Int)(bport:Int)(bopq bpn:Bool)(bpl:List Bs)(bhq:Bool)(bq:Bs)(bhf:Bool)(bfg:Bs):ag Tryz.prog az 47 [.ptr 0 0,aD 0 (.ptr 1 0) sc us pw hk hs hn hp port false true [] hq q hf fg bare sp rst,bC 0 bsc bus bpw bhk bhs bhn bhp bport bopq bpn bpl bhq bq bhf bfg] ⟨rst.length≤300000∧bpl.length≤100000∧(ab rst rst 0).2.2=false∧bopq=false∧bsc=fL∧aA (aw bsc) rst 0=false∧bQ rst=false∧bo rst=false,.tup [.int .i64 0,aD 0 (.ptr 1 0) (((RS.mk sc us pw hk hs hn hp port false true ([]:List Bs) hq q hf fg bare sp rst).au (RS.mk bsc bus bpw bhk bhs bhn bhp bport bopq bpn bpl bhq bq bhf bfg false false [])).sc) (((RS.mk sc us pw hk hs hn hp port false true ([]:List Bs) hq q hf fg bare sp rst).au (RS.mk bsc bus bpw bhk bhs bhn bhp bport bopq bpn bpl bhq bq bhf bfg false false [])).us) (((RS.mk sc us pw hk hs hn hp port false true ([]:List Bs) hq q hf fg bare sp rst).au (RS.mk bsc bus bpw bhk bhs bhn bhp bport bopq bpn bpl bhq bq bhf bfg false false [])).pw) (((RS.mk sc us pw hk hs hn hp port false true ([]:List Bs) hq q hf fg bare sp rst).au (RS.mk bsc bus bpw bhk bhs bhn bhp bport bopq bpn bpl bhq bq bhf bfg false false [])).hk) (((RS.mk sc us pw hk hs hn hp port false true ([]:List Bs) hq q hf fg bare sp rst).au (RS.mk bsc bus bpw bhk bhs bhn bhp bport bopq bpn bpl bhq bq bhf bfg false false [])).hs) (((RS.mk sc us pw hk hs hn hp port false true ([]:List Bs) hq q hf fg bare sp rst).au (RS.mk bsc bus bpw bhk bhs bhn bhp bport bopq bpn bpl bhq bq bhf bfg false false [])).hn) (((RS.mk sc us pw hk hs hn hp port false true ([]:List Bs) hq q hf fg bare sp rst).au (RS.mk bsc bus bpw bhk bhs bhn bhp bport bopq bpn bpl bhq bq bhf bfg false false [])).hp) (((RS.mk sc us pw hk hs hn hp port false true ([]:List Bs) hq q hf fg bare sp rst).au (RS.mk bsc bus bpw bhk bhs bhn bhp bport bopq bpn bpl bhq bq bhf bfg false false [])).port) (((RS.mk sc us pw hk hs hn hp port false true ([]:List Bs) hq q hf fg bare sp rst).au (RS.mk bsc bus bpw bhk bhs bhn bhp bport bopq bpn bpl bhq bq bhf bfg false false [])).opq) (((RS.mk sc us pw hk hs hn hp port false true ([]:List Bs) hq q hf fg bare sp rst).au (RS.mk bsc bus bpw bhk bhs bhn bhp bport bopq bpn bpl bhq bq bhf bfg false false [])).pn) (((RS.mk sc us pw hk hs hn hp port false true ([]:List Bs) hq q hf fg bare sp rst).au (RS.mk bsc bus bpw bhk bhs bhn bhp bport bopq bpn bpl bhq bq bhf bfg false false [])).pl) (((RS.mk sc us pw hk hs hn hp port false true ([]:List Bs) hq q hf fg bare sp rst).au (RS.mk bsc bus bpw bhk bhs bhn bhp bport bopq bpn bpl bhq bq bhf bfg false false [])).hq) (((RS.mk sc us pw hk hs hn hp port false true ([]:List Bs) hq q hf fg bare sp rst).au (RS.mk bsc bus bpw bhk bhs bhn bhp bport bopq bpn bpl bhq bq bhf bfg false false [])).q) (((RS.mk sc us pw hk hs hn hp port false true ([]:List Bs) hq q hf fg bare sp rst).au (RS.mk bsc bus bpw bhk bhs bhn bhp bport bopq bpn bpl bhq bq bhf bfg false false [])).hf) (((RS.mk sc us pw hk hs hn hp port false true ([]:List Bs) hq q hf fg bare sp rst).au (RS.mk bsc bus bpw bhk bhs bhn bhp bport bopq bpn bpl bhq bq bhf bfg false false [])).fg) (((RS.mk sc us pw hk hs hn hp port false true ([]:List Bs) hq q hf fg bare sp rst).au (RS.mk bsc bus bpw bhk bhs bhn bhp bport bopq bpn bpl bhq bq bhf bfg false false [])).bare) (((RS.mk sc us pw hk hs hn hp port false true ([]:List Bs) hq q hf fg bare sp rst).au (RS.mk bsc bus bpw bhk bhs bhn bhp bport bopq bpn bpl bhq bq bhf bfg false false [])).sp) (((RS.mk sc us pw hk hs hn hp port false true ([]:List Bs) hq q hf fg bare sp rst).au (RS.mk bsc bus bpw bhk bhs bhn bhp bport bopq bpn bpl bhq bq bhf bfg false false [])).rst),bC 0 bsc bus bpw bhk bhs bhn bhp bport bopq bpn bpl bhq bq bhf bfg]⟩:=ag.aZ (fun h=>by have e:List.isEmpty (PV.aC PV.bt [.ptr 0 0,aD 0 (.ptr 1 0) sc us pw hk hs hn hp port false true [] hq q hf fg bare sp rst,bC 0 bsc bus bpw bhk bhs bhn bhp bport bopq bpn bpl bhq bq bhf bfg])=false:=(by kernel_rfl);exact Bool.noConfusion (e.symm.trans (congrArg List.isEmpty h))) (vL sc us pw hk hs hn hp port hq q hf fg bare sp rst bsc bus bpw bhk bhs bhn bhp bport bopq bpn bpl bhq bq bhf bfg)
def j7:List PV→Option aF:=fun xs=>match xs with
 |[.ptr 0 0,aD 0 (.ptr 1 0) sc us pw hk hs hn hp port false true [] hq q hf fg bare sp rst,bC 0 bsc bus bpw bhk bhs bhn bhp bport bopq bpn bpl bhq bq bhf bfg]=>some ⟨rst.length≤300000∧bpl.length≤100000∧(ab rst rst 0).2.2=false∧bopq=false∧bsc=fL∧aA (aw bsc) rst 0=false∧bQ rst=false∧bo rst=false,.tup [.int .i64 0,aD 0 (.ptr 1 0) (((RS.mk sc us pw hk hs hn hp port false true ([]:List Bs) hq q hf fg bare sp rst).au (RS.mk bsc bus bpw bhk bhs bhn bhp bport bopq bpn bpl bhq bq bhf bfg false false [])).sc) (((RS.mk sc us pw hk hs hn hp port false true ([]:List Bs) hq q hf fg bare sp rst).au (RS.mk bsc bus bpw bhk bhs bhn bhp bport bopq bpn bpl bhq bq bhf bfg false false [])).us) (((RS.mk sc us pw hk hs hn hp port false true ([]:List Bs) hq q hf fg bare sp rst).au (RS.mk bsc bus bpw bhk bhs bhn bhp bport bopq bpn bpl bhq bq bhf bfg false false [])).pw) (((RS.mk sc us pw hk hs hn hp port false true ([]:List Bs) hq q hf fg bare sp rst).au (RS.mk bsc bus bpw bhk bhs bhn bhp bport bopq bpn bpl bhq bq bhf bfg false false [])).hk) (((RS.mk sc us pw hk hs hn hp port false true ([]:List Bs) hq q hf fg bare sp rst).au (RS.mk bsc bus bpw bhk bhs bhn bhp bport bopq bpn bpl bhq bq bhf bfg false false [])).hs) (((RS.mk sc us pw hk hs hn hp port false true ([]:List Bs) hq q hf fg bare sp rst).au (RS.mk bsc bus bpw bhk bhs bhn bhp bport bopq bpn bpl bhq bq bhf bfg false false [])).hn) (((RS.mk sc us pw hk hs hn hp port false true ([]:List Bs) hq q hf fg bare sp rst).au (RS.mk bsc bus bpw bhk bhs bhn bhp bport bopq bpn bpl bhq bq bhf bfg false false [])).hp) (((RS.mk sc us pw hk hs hn hp port false true ([]:List Bs) hq q hf fg bare sp rst).au (RS.mk bsc bus bpw bhk bhs bhn bhp bport bopq bpn bpl bhq bq bhf bfg false false [])).port) (((RS.mk sc us pw hk hs hn hp port false true ([]:List Bs) hq q hf fg bare sp rst).au (RS.mk bsc bus bpw bhk bhs bhn bhp bport bopq bpn bpl bhq bq bhf bfg false false [])).opq) (((RS.mk sc us pw hk hs hn hp port false true ([]:List Bs) hq q hf fg bare sp rst).au (RS.mk bsc bus bpw bhk bhs bhn bhp bport bopq bpn bpl bhq bq bhf bfg false false [])).pn) (((RS.mk sc us pw hk hs hn hp port false true ([]:List Bs) hq q hf fg bare sp rst).au (RS.mk bsc bus bpw bhk bhs bhn bhp bport bopq bpn bpl bhq bq bhf bfg false false [])).pl) (((RS.mk sc us pw hk hs hn hp port false true ([]:List Bs) hq q hf fg bare sp rst).au (RS.mk bsc bus bpw bhk bhs bhn bhp bport bopq bpn bpl bhq bq bhf bfg false false [])).hq) (((RS.mk sc us pw hk hs hn hp port false true ([]:List Bs) hq q hf fg bare sp rst).au (RS.mk bsc bus bpw bhk bhs bhn bhp bport bopq bpn bpl bhq bq bhf bfg false false [])).q) (((RS.mk sc us pw hk hs hn hp port false true ([]:List Bs) hq q hf fg bare sp rst).au (RS.mk bsc bus bpw bhk bhs bhn bhp bport bopq bpn bpl bhq bq bhf bfg false false [])).hf) (((RS.mk sc us pw hk hs hn hp port false true ([]:List Bs) hq q hf fg bare sp rst).au (RS.mk bsc bus bpw bhk bhs bhn bhp bport bopq bpn bpl bhq bq bhf bfg false false [])).fg) (((RS.mk sc us pw hk hs hn hp port false true ([]:List Bs) hq q hf fg bare sp rst).au (RS.mk bsc bus bpw bhk bhs bhn bhp bport bopq bpn bpl bhq bq bhf bfg false false [])).bare) (((RS.mk sc us pw hk hs hn hp port false true ([]:List Bs) hq q hf fg bare sp rst).au (RS.mk bsc bus bpw bhk bhs bhn bhp bport bopq bpn bpl bhq bq bhf bfg false false [])).sp) (((RS.mk sc us pw hk hs hn hp port false true ([]:List Bs) hq q hf fg bare sp rst).au (RS.mk bsc bus bpw bhk bhs bhn bhp bport bopq bpn bpl bhq bq bhf bfg false false [])).rst),bC 0 bsc bus bpw bhk bhs bhn bhp bport bopq bpn bpl bhq bq bhf bfg]⟩
 |_=>none
theorem rC:∀xs c,j7 xs=some c→ag Tryz.prog az 47 xs c:=fun xs c h=>by
 unfold j7 at h
 split at h
 ·injection h with h;subst h;exact AI _ _ _ _ _ _ _ _ _ _ _ _ _ _ _ _ _ _ _ _ _ _ _ _ _ _ _ _ _ _
 ·cases h
end
section
def yz:cw:=bO [(46,kp),(47,j7)]
def yA(l:Bs)(bsc bus bpw:Bs)(bhk:Int)(bhs:Bs)(bhn:Int)(bhp:List Int)(bport:Int)(bopq bpn:Bool)(bpl:List Bs)(bhq:Bool)(bq:Bs)(bhf:Bool)(bfg:Bs):aX:=fun i=>none
theorem yB:cW Tryz.prog az yz:=ai mv (ai rC (ax))
theorem DZ(l:Bs)(bsc bus bpw:Bs)(bhk:Int)(bhs:Bs)(bhn:Int)(bhp:List Int)(bport:Int)(bopq bpn:Bool)(bpl:List Bs)(bhq:Bool)(bq:Bs)(bhf:Bool)(bfg:Bs)(k:PV→List PV→Prop):bL Tryz.prog yz az (yA l bsc bus bpw bhk bhs bhn bhp bport bopq bpn bpl bhq bq bhf bfg) 1000 Tryz.f30 [.str l,.ptr 0 0] [bC 0 bsc bus bpw bhk bhs bhn bhp bport bopq bpn bpl bhq bq bhf bfg] k=(
 (decide ((1048576:Int)<ak l)=true→
 k
 (PV.tup
 [bC (0:Nat) [] [] [] (0:Int) [] (0:Int) (List.replicate (8:Nat) (0:Int)) (0:Int) false true [] false [] false [],
 PV.int .i64 (6:Int)])
 [bC (0:Nat) bsc bus bpw bhk bhs bhn bhp bport bopq bpn bpl bhq bq bhf bfg])∧
 (decide ((1048576:Int)<ak l)=false→
 (List.length l).le (60000:Nat)∧
 (List.length (ao l)≤(300000:Nat)∧
 bpl.length≤(100000:Nat)∧
 (ab (ao l) (ao l)
 (0:Nat)).2.2=
 false∧
 bopq=false∧
 bsc=fL∧
 aA (aw bsc) (ao l)
 (0:Int)=
 false∧
 bQ (ao l)=false∧
 bo (ao l)=false)∧
 ((!decide ((0:Int)=(0:Int)))=true→
 k
 (PV.tup
 [bC (0:Nat) [] [] [] (0:Int) [] (0:Int) (List.replicate (8:Nat) (0:Int)) (0:Int) false true [] false [] false [],
 PV.int .i64 (0:Int)])
 [bC (0:Nat) bsc bus bpw bhk bhs bhn bhp bport bopq bpn bpl bhq bq bhf bfg])∧
 ((!decide ((0:Int)=(0:Int)))=false→
 k
 (PV.tup
 [bC (0:Nat) ((RS.mk [] [] [] (0:Int) [] (0:Int) (List.replicate (8:Nat) (0:Int)) (-1:Int) false true
 [] false [] false [] false false (ao l)).au
 (RS.mk bsc bus bpw bhk bhs bhn bhp bport bopq bpn bpl bhq bq bhf bfg false false [])).sc ((RS.mk [] [] [] (0:Int) [] (0:Int) (List.replicate (8:Nat) (0:Int)) (-1:Int) false true
 [] false [] false [] false false (ao l)).au
 (RS.mk bsc bus bpw bhk bhs bhn bhp bport bopq bpn bpl bhq bq bhf bfg false false [])).us ((RS.mk [] [] [] (0:Int) [] (0:Int) (List.replicate (8:Nat) (0:Int)) (-1:Int) false true
 [] false [] false [] false false (ao l)).au
 (RS.mk bsc bus bpw bhk bhs bhn bhp bport bopq bpn bpl bhq bq bhf bfg false false [])).pw ((RS.mk [] [] [] (0:Int) [] (0:Int) (List.replicate (8:Nat) (0:Int)) (-1:Int) false
 true [] false [] false [] false false (ao l)).au
 (RS.mk bsc bus bpw bhk bhs bhn bhp bport bopq bpn bpl bhq bq bhf bfg false false [])).hk ((RS.mk [] [] [] (0:Int) [] (0:Int) (List.replicate (8:Nat) (0:Int)) (-1:Int) false
 true [] false [] false [] false false (ao l)).au
 (RS.mk bsc bus bpw bhk bhs bhn bhp bport bopq bpn bpl bhq bq bhf bfg false false [])).hs ((RS.mk [] [] [] (0:Int) [] (0:Int) (List.replicate (8:Nat) (0:Int)) (-1:Int) false
 true [] false [] false [] false false (ao l)).au
 (RS.mk bsc bus bpw bhk bhs bhn bhp bport bopq bpn bpl bhq bq bhf bfg false false [])).hn ((RS.mk [] [] [] (0:Int) [] (0:Int) (List.replicate (8:Nat) (0:Int)) (-1:Int) false
 true [] false [] false [] false false (ao l)).au
 (RS.mk bsc bus bpw bhk bhs bhn bhp bport bopq bpn bpl bhq bq bhf bfg false false
 [])).hp ((RS.mk [] [] [] (0:Int) [] (0:Int) (List.replicate (8:Nat) (0:Int)) (-1:Int) false true
 [] false [] false [] false false (ao l)).au
 (RS.mk bsc bus bpw bhk bhs bhn bhp bport bopq bpn bpl bhq bq bhf bfg false false [])).port ((RS.mk [] [] [] (0:Int) [] (0:Int) (List.replicate (8:Nat) (0:Int)) (-1:Int) false true
 [] false [] false [] false false (ao l)).au
 (RS.mk bsc bus bpw bhk bhs bhn bhp bport bopq bpn bpl bhq bq bhf bfg false false [])).opq ((RS.mk [] [] [] (0:Int) [] (0:Int) (List.replicate (8:Nat) (0:Int)) (-1:Int) false true
 [] false [] false [] false false (ao l)).au
 (RS.mk bsc bus bpw bhk bhs bhn bhp bport bopq bpn bpl bhq bq bhf bfg false false [])).pn ((RS.mk [] [] [] (0:Int) [] (0:Int) (List.replicate (8:Nat) (0:Int)) (-1:Int) false true
 [] false [] false [] false false (ao l)).au
 (RS.mk bsc bus bpw bhk bhs bhn bhp bport bopq bpn bpl bhq bq bhf bfg false false [])).pl ((RS.mk [] [] [] (0:Int) [] (0:Int) (List.replicate (8:Nat) (0:Int)) (-1:Int) false true
 [] false [] false [] false false (ao l)).au
 (RS.mk bsc bus bpw bhk bhs bhn bhp bport bopq bpn bpl bhq bq bhf bfg false false [])).hq ((RS.mk [] [] [] (0:Int) [] (0:Int) (List.replicate (8:Nat) (0:Int)) (-1:Int) false true
 [] false [] false [] false false (ao l)).au
 (RS.mk bsc bus bpw bhk bhs bhn bhp bport bopq bpn bpl bhq bq bhf bfg false false [])).q ((RS.mk [] [] [] (0:Int) [] (0:Int) (List.replicate (8:Nat) (0:Int)) (-1:Int) false true
 [] false [] false [] false false (ao l)).au
 (RS.mk bsc bus bpw bhk bhs bhn bhp bport bopq bpn bpl bhq bq bhf bfg false false [])).hf ((RS.mk [] [] [] (0:Int) [] (0:Int) (List.replicate (8:Nat) (0:Int)) (-1:Int) false true
 [] false [] false [] false false (ao l)).au
 (RS.mk bsc bus bpw bhk bhs bhn bhp bport bopq bpn bpl bhq bq bhf bfg false false [])).fg,
 PV.int .i64 (0:Int)])
 [bC (0:Nat) bsc bus bpw bhk bhs bhn bhp bport bopq bpn bpl bhq bq bhf bfg]))):=by kernel_rfl
attribute [local irreducible] Go.Vc.cG Go.Vc.bL
theorem yC(l:Bs)(bsc bus bpw:Bs)(bhk:Int)(bhs:Bs)(bhn:Int)(bhp:List Int)(bport:Int)(bopq bpn:Bool)(bpl:List Bs)(bhq:Bool)(bq:Bs)(bhf:Bool)(bfg:Bs):bh Tryz.prog az 30 [.str l,.ptr 0 0] [bC 0 bsc bus bpw bhk bhs bhn bhp bport bopq bpn bpl bhq bq bhf bfg] (l.length≤60000∧bpl.length≤100000∧(ab (ao l) (ao l) 0).2.2=false∧bopq=false∧bsc=fL∧aA (aw bsc) (ao l) 0=false∧bQ (ao l)=false∧bo (ao l)=false) (.tup [bC 0 (((RS.init (ao l)).au (RS.mk bsc bus bpw bhk bhs bhn bhp bport bopq bpn bpl bhq bq bhf bfg false false []))).sc (((RS.init (ao l)).au (RS.mk bsc bus bpw bhk bhs bhn bhp bport bopq bpn bpl bhq bq bhf bfg false false []))).us (((RS.init (ao l)).au (RS.mk bsc bus bpw bhk bhs bhn bhp bport bopq bpn bpl bhq bq bhf bfg false false []))).pw (((RS.init (ao l)).au (RS.mk bsc bus bpw bhk bhs bhn bhp bport bopq bpn bpl bhq bq bhf bfg false false []))).hk (((RS.init (ao l)).au (RS.mk bsc bus bpw bhk bhs bhn bhp bport bopq bpn bpl bhq bq bhf bfg false false []))).hs (((RS.init (ao l)).au (RS.mk bsc bus bpw bhk bhs bhn bhp bport bopq bpn bpl bhq bq bhf bfg false false []))).hn (((RS.init (ao l)).au (RS.mk bsc bus bpw bhk bhs bhn bhp bport bopq bpn bpl bhq bq bhf bfg false false []))).hp (((RS.init (ao l)).au (RS.mk bsc bus bpw bhk bhs bhn bhp bport bopq bpn bpl bhq bq bhf bfg false false []))).port (((RS.init (ao l)).au (RS.mk bsc bus bpw bhk bhs bhn bhp bport bopq bpn bpl bhq bq bhf bfg false false []))).opq (((RS.init (ao l)).au (RS.mk bsc bus bpw bhk bhs bhn bhp bport bopq bpn bpl bhq bq bhf bfg false false []))).pn (((RS.init (ao l)).au (RS.mk bsc bus bpw bhk bhs bhn bhp bport bopq bpn bpl bhq bq bhf bfg false false []))).pl (((RS.init (ao l)).au (RS.mk bsc bus bpw bhk bhs bhn bhp bport bopq bpn bpl bhq bq bhf bfg false false []))).hq (((RS.init (ao l)).au (RS.mk bsc bus bpw bhk bhs bhn bhp bport bopq bpn bpl bhq bq bhf bfg false false []))).q (((RS.init (ao l)).au (RS.mk bsc bus bpw bhk bhs bhn bhp bport bopq bpn bpl bhq bq bhf bfg false false []))).hf (((RS.init (ao l)).au (RS.mk bsc bus bpw bhk bhs bhn bhp bport bopq bpn bpl bhq bq bhf bfg false false []))).fg,.int .i64 0]) [bC 0 bsc bus bpw bhk bhs bhn bhp bport bopq bpn bpl bhq bq bhf bfg]:=bu (by kernel_rfl) yB (H:=yA l bsc bus bpw bhk bhs bhn bhp bport bopq bpn bpl bhq bq bhf bfg) (fuel:=1000) Tryz.func30 (by kernel_rfl) (Nat.le_of_ble_eq_true rfl) fun hpre=>(DZ l bsc bus bpw bhk bhs bhn bhp bport bopq bpn bpl bhq bq bhf bfg _).mpr (by
 obtain ⟨h1,h2,h3,h4,h5,h6,h7,h8⟩:=hpre
 have hs:=tT l
 exact ⟨fun h=>absurd (of_decide_eq_true h) (by unfold ak;omega),fun _=>⟨h1,⟨by omega,h2,h3,h4,h5,h6,h7,h8⟩,(fun h=>absurd h (by decide)),fun _=>⟨rfl,rfl⟩⟩⟩)
theorem D3(l:Bs)(bsc bus bpw:Bs)(bhk:Int)(bhs:Bs)(bhn:Int)(bhp:List Int)(bport:Int)(bopq bpn:Bool)(bpl:List Bs)(bhq:Bool)(bq:Bs)(bhf:Bool)(bfg:Bs):ag Tryz.prog az 30 [.str l,.ptr 0 0,bC 0 bsc bus bpw bhk bhs bhn bhp bport bopq bpn bpl bhq bq bhf bfg] ⟨l.length≤60000∧bpl.length≤100000∧(ab (ao l) (ao l) 0).2.2=false∧bopq=false∧bsc=fL∧aA (aw bsc) (ao l) 0=false∧bQ (ao l)=false∧bo (ao l)=false,.tup [.tup [bC 0 (((RS.init (ao l)).au (RS.mk bsc bus bpw bhk bhs bhn bhp bport bopq bpn bpl bhq bq bhf bfg false false []))).sc (((RS.init (ao l)).au (RS.mk bsc bus bpw bhk bhs bhn bhp bport bopq bpn bpl bhq bq bhf bfg false false []))).us (((RS.init (ao l)).au (RS.mk bsc bus bpw bhk bhs bhn bhp bport bopq bpn bpl bhq bq bhf bfg false false []))).pw (((RS.init (ao l)).au (RS.mk bsc bus bpw bhk bhs bhn bhp bport bopq bpn bpl bhq bq bhf bfg false false []))).hk (((RS.init (ao l)).au (RS.mk bsc bus bpw bhk bhs bhn bhp bport bopq bpn bpl bhq bq bhf bfg false false []))).hs (((RS.init (ao l)).au (RS.mk bsc bus bpw bhk bhs bhn bhp bport bopq bpn bpl bhq bq bhf bfg false false []))).hn (((RS.init (ao l)).au (RS.mk bsc bus bpw bhk bhs bhn bhp bport bopq bpn bpl bhq bq bhf bfg false false []))).hp (((RS.init (ao l)).au (RS.mk bsc bus bpw bhk bhs bhn bhp bport bopq bpn bpl bhq bq bhf bfg false false []))).port (((RS.init (ao l)).au (RS.mk bsc bus bpw bhk bhs bhn bhp bport bopq bpn bpl bhq bq bhf bfg false false []))).opq (((RS.init (ao l)).au (RS.mk bsc bus bpw bhk bhs bhn bhp bport bopq bpn bpl bhq bq bhf bfg false false []))).pn (((RS.init (ao l)).au (RS.mk bsc bus bpw bhk bhs bhn bhp bport bopq bpn bpl bhq bq bhf bfg false false []))).pl (((RS.init (ao l)).au (RS.mk bsc bus bpw bhk bhs bhn bhp bport bopq bpn bpl bhq bq bhf bfg false false []))).hq (((RS.init (ao l)).au (RS.mk bsc bus bpw bhk bhs bhn bhp bport bopq bpn bpl bhq bq bhf bfg false false []))).q (((RS.init (ao l)).au (RS.mk bsc bus bpw bhk bhs bhn bhp bport bopq bpn bpl bhq bq bhf bfg false false []))).hf (((RS.init (ao l)).au (RS.mk bsc bus bpw bhk bhs bhn bhp bport bopq bpn bpl bhq bq bhf bfg false false []))).fg,.int .i64 0],bC 0 bsc bus bpw bhk bhs bhn bhp bport bopq bpn bpl bhq bq bhf bfg]⟩:=ag.aZ (fun h=>by have e:List.isEmpty (PV.aC PV.bt [.str l,.ptr 0 0,bC 0 bsc bus bpw bhk bhs bhn bhp bport bopq bpn bpl bhq bq bhf bfg])=false:=(by kernel_rfl);exact Bool.noConfusion (e.symm.trans (congrArg List.isEmpty h))) (yC l bsc bus bpw bhk bhs bhn bhp bport bopq bpn bpl bhq bq bhf bfg)
def lF:List PV→Option aF:=fun xs=>match xs with
 |[.str l,.ptr 0 0,bC 0 bsc bus bpw bhk bhs bhn bhp bport bopq bpn bpl bhq bq bhf bfg]=>some ⟨l.length≤60000∧bpl.length≤100000∧(ab (ao l) (ao l) 0).2.2=false∧bopq=false∧bsc=fL∧aA (aw bsc) (ao l) 0=false∧bQ (ao l)=false∧bo (ao l)=false,.tup [.tup [bC 0 (((RS.init (ao l)).au (RS.mk bsc bus bpw bhk bhs bhn bhp bport bopq bpn bpl bhq bq bhf bfg false false []))).sc (((RS.init (ao l)).au (RS.mk bsc bus bpw bhk bhs bhn bhp bport bopq bpn bpl bhq bq bhf bfg false false []))).us (((RS.init (ao l)).au (RS.mk bsc bus bpw bhk bhs bhn bhp bport bopq bpn bpl bhq bq bhf bfg false false []))).pw (((RS.init (ao l)).au (RS.mk bsc bus bpw bhk bhs bhn bhp bport bopq bpn bpl bhq bq bhf bfg false false []))).hk (((RS.init (ao l)).au (RS.mk bsc bus bpw bhk bhs bhn bhp bport bopq bpn bpl bhq bq bhf bfg false false []))).hs (((RS.init (ao l)).au (RS.mk bsc bus bpw bhk bhs bhn bhp bport bopq bpn bpl bhq bq bhf bfg false false []))).hn (((RS.init (ao l)).au (RS.mk bsc bus bpw bhk bhs bhn bhp bport bopq bpn bpl bhq bq bhf bfg false false []))).hp (((RS.init (ao l)).au (RS.mk bsc bus bpw bhk bhs bhn bhp bport bopq bpn bpl bhq bq bhf bfg false false []))).port (((RS.init (ao l)).au (RS.mk bsc bus bpw bhk bhs bhn bhp bport bopq bpn bpl bhq bq bhf bfg false false []))).opq (((RS.init (ao l)).au (RS.mk bsc bus bpw bhk bhs bhn bhp bport bopq bpn bpl bhq bq bhf bfg false false []))).pn (((RS.init (ao l)).au (RS.mk bsc bus bpw bhk bhs bhn bhp bport bopq bpn bpl bhq bq bhf bfg false false []))).pl (((RS.init (ao l)).au (RS.mk bsc bus bpw bhk bhs bhn bhp bport bopq bpn bpl bhq bq bhf bfg false false []))).hq (((RS.init (ao l)).au (RS.mk bsc bus bpw bhk bhs bhn bhp bport bopq bpn bpl bhq bq bhf bfg false false []))).q (((RS.init (ao l)).au (RS.mk bsc bus bpw bhk bhs bhn bhp bport bopq bpn bpl bhq bq bhf bfg false false []))).hf (((RS.init (ao l)).au (RS.mk bsc bus bpw bhk bhs bhn bhp bport bopq bpn bpl bhq bq bhf bfg false false []))).fg,.int .i64 0],bC 0 bsc bus bpw bhk bhs bhn bhp bport bopq bpn bpl bhq bq bhf bfg]⟩
 |_=>none
theorem sj:∀xs c,lF xs=some c→ag Tryz.prog az 30 xs c:=fun xs c h=>by
 unfold lF at h
 split at h
 ·injection h with h;subst h;exact D3 _ _ _ _ _ _ _ _ _ _ _ _ _ _ _ _
 ·cases h
end
section
def yD:cw:=bO [(30,lF)]
def yE(l:Bs)(bsc bus bpw:Bs)(bhk:Int)(bhs:Bs)(bhn:Int)(bhp:List Int)(bport:Int)(bopq bpn:Bool)(bpl:List Bs)(bhq:Bool)(bq:Bs)(bhf:Bool)(bfg:Bs):aX:=fun i=>none
theorem yF:cW Tryz.prog az yD:=ai sj (ax)
theorem D4(l:Bs)(bsc bus bpw:Bs)(bhk:Int)(bhs:Bs)(bhn:Int)(bhp:List Int)(bport:Int)(bopq bpn:Bool)(bpl:List Bs)(bhq:Bool)(bq:Bs)(bhf:Bool)(bfg:Bs)(k:PV→Prop):cG Tryz.prog yD az (yE l bsc bus bpw bhk bhs bhn bhp bport bopq bpn bpl bhq bq bhf bfg) 1000 Tryz.f21 [.str l,bC 0 bsc bus bpw bhk bhs bhn bhp bport bopq bpn bpl bhq bq bhf bfg] k=(
 (List.length l≤(60000:Nat)∧
 bpl.length≤(100000:Nat)∧
 (ab (ao l) (ao l)
 (0:Nat)).2.2=
 false∧
 bopq=false∧
 bsc=fL∧
 aA (aw bsc) (ao l) (0:Int)=
 false∧
 bQ (ao l)=false∧
 bo (ao l)=false)∧
 k
 (PV.tup
 [bC (0:Nat) ((RS.init (ao l)).au
 (RS.mk bsc bus bpw bhk bhs bhn bhp bport bopq bpn bpl bhq bq bhf bfg false false [])).sc ((RS.init (ao l)).au
 (RS.mk bsc bus bpw bhk bhs bhn bhp bport bopq bpn bpl bhq bq bhf bfg false false [])).us ((RS.init (ao l)).au
 (RS.mk bsc bus bpw bhk bhs bhn bhp bport bopq bpn bpl bhq bq bhf bfg false false [])).pw ((RS.init (ao l)).au
 (RS.mk bsc bus bpw bhk bhs bhn bhp bport bopq bpn bpl bhq bq bhf bfg false false [])).hk ((RS.init (ao l)).au
 (RS.mk bsc bus bpw bhk bhs bhn bhp bport bopq bpn bpl bhq bq bhf bfg false false [])).hs ((RS.init (ao l)).au
 (RS.mk bsc bus bpw bhk bhs bhn bhp bport bopq bpn bpl bhq bq bhf bfg false false [])).hn ((RS.init (ao l)).au
 (RS.mk bsc bus bpw bhk bhs bhn bhp bport bopq bpn bpl bhq bq bhf bfg false false [])).hp ((RS.init (ao l)).au
 (RS.mk bsc bus bpw bhk bhs bhn bhp bport bopq bpn bpl bhq bq bhf bfg false false [])).port ((RS.init (ao l)).au
 (RS.mk bsc bus bpw bhk bhs bhn bhp bport bopq bpn bpl bhq bq bhf bfg false false [])).opq ((RS.init (ao l)).au
 (RS.mk bsc bus bpw bhk bhs bhn bhp bport bopq bpn bpl bhq bq bhf bfg false false [])).pn ((RS.init (ao l)).au
 (RS.mk bsc bus bpw bhk bhs bhn bhp bport bopq bpn bpl bhq bq bhf bfg false false [])).pl ((RS.init (ao l)).au
 (RS.mk bsc bus bpw bhk bhs bhn bhp bport bopq bpn bpl bhq bq bhf bfg false false [])).hq ((RS.init (ao l)).au
 (RS.mk bsc bus bpw bhk bhs bhn bhp bport bopq bpn bpl bhq bq bhf bfg false false [])).q ((RS.init (ao l)).au
 (RS.mk bsc bus bpw bhk bhs bhn bhp bport bopq bpn bpl bhq bq bhf bfg false false [])).hf ((RS.init (ao l)).au
 (RS.mk bsc bus bpw bhk bhs bhn bhp bport bopq bpn bpl bhq bq bhf bfg false false [])).fg,
 PV.int .i64 (0:Int)])):=by kernel_rfl
attribute [local irreducible] Go.Vc.cG
theorem D5(l:Bs)(bsc bus bpw:Bs)(bhk:Int)(bhs:Bs)(bhn:Int)(bhp:List Int)(bport:Int)(bopq bpn:Bool)(bpl:List Bs)(bhq:Bool)(bq:Bs)(bhf:Bool)(bfg:Bs):ag Tryz.prog az 21 [.str l,bC 0 bsc bus bpw bhk bhs bhn bhp bport bopq bpn bpl bhq bq bhf bfg] ⟨l.length≤60000∧bpl.length≤100000∧(ab (ao l) (ao l) 0).2.2=false∧bopq=false∧bsc=fL∧aA (aw bsc) (ao l) 0=false∧bQ (ao l)=false∧bo (ao l)=false,.tup [bC 0 (((RS.init (ao l)).au (RS.mk bsc bus bpw bhk bhs bhn bhp bport bopq bpn bpl bhq bq bhf bfg false false []))).sc (((RS.init (ao l)).au (RS.mk bsc bus bpw bhk bhs bhn bhp bport bopq bpn bpl bhq bq bhf bfg false false []))).us (((RS.init (ao l)).au (RS.mk bsc bus bpw bhk bhs bhn bhp bport bopq bpn bpl bhq bq bhf bfg false false []))).pw (((RS.init (ao l)).au (RS.mk bsc bus bpw bhk bhs bhn bhp bport bopq bpn bpl bhq bq bhf bfg false false []))).hk (((RS.init (ao l)).au (RS.mk bsc bus bpw bhk bhs bhn bhp bport bopq bpn bpl bhq bq bhf bfg false false []))).hs (((RS.init (ao l)).au (RS.mk bsc bus bpw bhk bhs bhn bhp bport bopq bpn bpl bhq bq bhf bfg false false []))).hn (((RS.init (ao l)).au (RS.mk bsc bus bpw bhk bhs bhn bhp bport bopq bpn bpl bhq bq bhf bfg false false []))).hp (((RS.init (ao l)).au (RS.mk bsc bus bpw bhk bhs bhn bhp bport bopq bpn bpl bhq bq bhf bfg false false []))).port (((RS.init (ao l)).au (RS.mk bsc bus bpw bhk bhs bhn bhp bport bopq bpn bpl bhq bq bhf bfg false false []))).opq (((RS.init (ao l)).au (RS.mk bsc bus bpw bhk bhs bhn bhp bport bopq bpn bpl bhq bq bhf bfg false false []))).pn (((RS.init (ao l)).au (RS.mk bsc bus bpw bhk bhs bhn bhp bport bopq bpn bpl bhq bq bhf bfg false false []))).pl (((RS.init (ao l)).au (RS.mk bsc bus bpw bhk bhs bhn bhp bport bopq bpn bpl bhq bq bhf bfg false false []))).hq (((RS.init (ao l)).au (RS.mk bsc bus bpw bhk bhs bhn bhp bport bopq bpn bpl bhq bq bhf bfg false false []))).q (((RS.init (ao l)).au (RS.mk bsc bus bpw bhk bhs bhn bhp bport bopq bpn bpl bhq bq bhf bfg false false []))).hf (((RS.init (ao l)).au (RS.mk bsc bus bpw bhk bhs bhn bhp bport bopq bpn bpl bhq bq bhf bfg false false []))).fg,.int .i64 0]⟩:=b7 (by kernel_rfl) yF (H:=yE l bsc bus bpw bhk bhs bhn bhp bport bopq bpn bpl bhq bq bhf bfg) (fuel:=1000) Tryz.func21 (by kernel_rfl) fun hpre=>(D4 l bsc bus bpw bhk bhs bhn bhp bport bopq bpn bpl bhq bq bhf bfg _).mpr (by
 exact ⟨hpre,rfl⟩)
end
section
attribute [local instance] KL
noncomputable def cN(l:Bs):RS×Int:=Classical.choose (⟨bH l,rfl⟩:∃x,x=bH l)
theorem mM(l:Bs):cN l=bH l:=Classical.choose_spec (⟨bH l,rfl⟩:∃x,x=bH l)
noncomputable def cL(l:Bs)(b:RS):RS:=Classical.choose (⟨(RS.init (ao l)).au b,rfl⟩:∃x,x=(RS.init (ao l)).au b)
theorem yG(l:Bs)(b:RS):cL l b=(RS.init (ao l)).au b:=Classical.choose_spec (⟨(RS.init (ao l)).au b,rfl⟩:∃x,x=(RS.init (ao l)).au b)
@[irreducible] def vM (l:Bs):Prop:=l.length≤60000
theorem D6(l:Bs):vM l=(l.length≤60000):=by unfold vM;rfl
@[irreducible] def I3 (l:Bs) (bsc bus bpw:Bs) (bhk:Int) (bhs:Bs) (bhn:Int) (bhp:List Int) (bport:Int) (bopq bpn:Bool) (bpl:List Bs) (bhq:Bool) (bq:Bs) (bhf:Bool) (bfg:Bs):Prop:=l.length≤60000∧bpl.length≤100000∧(ab (ao l) (ao l) 0).2.2=false∧bopq=false∧bsc=fL∧aA (aw bsc) (ao l) 0=false∧bQ (ao l)=false∧bo (ao l)=false
theorem I4(l:Bs)(bsc bus bpw:Bs)(bhk:Int)(bhs:Bs)(bhn:Int)(bhp:List Int)(bport:Int)(bopq bpn:Bool)(bpl:List Bs)(bhq:Bool)(bq:Bs)(bhf:Bool)(bfg:Bs):I3 l bsc bus bpw bhk bhs bhn bhp bport bopq bpn bpl bhq bq bhf bfg=(l.length≤60000∧bpl.length≤100000∧(ab (ao l) (ao l) 0).2.2=false∧bopq=false∧bsc=fL∧aA (aw bsc) (ao l) 0=false∧bQ (ao l)=false∧bo (ao l)=false):=by unfold I3;rfl
theorem D7(l:Bs):ag Tryz.prog az 19 [.str l] ⟨vM l,.tup [bC 0 ((cN l).1).sc ((cN l).1).us ((cN l).1).pw ((cN l).1).hk ((cN l).1).hs ((cN l).1).hn ((cN l).1).hp ((cN l).1).port ((cN l).1).opq ((cN l).1).pn ((cN l).1).pl ((cN l).1).hq ((cN l).1).q ((cN l).1).hf ((cN l).1).fg,.int .i64 (cN l).2]⟩:=(DU l).to (fun h=>by rw [D6]at h;exact h) (fun _=>by rw [mM])
noncomputable def jl:List PV→Option aF:=fun xs=>match xs with
 |[.str l]=>some ⟨vM l,.tup [bC 0 ((cN l).1).sc ((cN l).1).us ((cN l).1).pw ((cN l).1).hk ((cN l).1).hs ((cN l).1).hn ((cN l).1).hp ((cN l).1).port ((cN l).1).opq ((cN l).1).pn ((cN l).1).pl ((cN l).1).hq ((cN l).1).q ((cN l).1).hf ((cN l).1).fg,.int .i64 (cN l).2]⟩
 |_=>none
theorem kM:∀xs c,jl xs=some c→ag Tryz.prog az 19 xs c:=fun xs c h=>by
 unfold jl at h
 split at h
 ·injection h with h;subst h;exact D7 _
 ·cases h
theorem GI(l:Bs)(bsc bus bpw:Bs)(bhk:Int)(bhs:Bs)(bhn:Int)(bhp:List Int)(bport:Int)(bopq bpn:Bool)(bpl:List Bs)(bhq:Bool)(bq:Bs)(bhf:Bool)(bfg:Bs):ag Tryz.prog az 21 [.str l,bC 0 bsc bus bpw bhk bhs bhn bhp bport bopq bpn bpl bhq bq bhf bfg] ⟨I3 l bsc bus bpw bhk bhs bhn bhp bport bopq bpn bpl bhq bq bhf bfg,.tup [bC 0 ((cL l (RS.mk bsc bus bpw bhk bhs bhn bhp bport bopq bpn bpl bhq bq bhf bfg false false []))).sc ((cL l (RS.mk bsc bus bpw bhk bhs bhn bhp bport bopq bpn bpl bhq bq bhf bfg false false []))).us ((cL l (RS.mk bsc bus bpw bhk bhs bhn bhp bport bopq bpn bpl bhq bq bhf bfg false false []))).pw ((cL l (RS.mk bsc bus bpw bhk bhs bhn bhp bport bopq bpn bpl bhq bq bhf bfg false false []))).hk ((cL l (RS.mk bsc bus bpw bhk bhs bhn bhp bport bopq bpn bpl bhq bq bhf bfg false false []))).hs ((cL l (RS.mk bsc bus bpw bhk bhs bhn bhp bport bopq bpn bpl bhq bq bhf bfg false false []))).hn ((cL l (RS.mk bsc bus bpw bhk bhs bhn bhp bport bopq bpn bpl bhq bq bhf bfg false false []))).hp ((cL l (RS.mk bsc bus bpw bhk bhs bhn bhp bport bopq bpn bpl bhq bq bhf bfg false false []))).port ((cL l (RS.mk bsc bus bpw bhk bhs bhn bhp bport bopq bpn bpl bhq bq bhf bfg false false []))).opq ((cL l (RS.mk bsc bus bpw bhk bhs bhn bhp bport bopq bpn bpl bhq bq bhf bfg false false []))).pn ((cL l (RS.mk bsc bus bpw bhk bhs bhn bhp bport bopq bpn bpl bhq bq bhf bfg false false []))).pl ((cL l (RS.mk bsc bus bpw bhk bhs bhn bhp bport bopq bpn bpl bhq bq bhf bfg false false []))).hq ((cL l (RS.mk bsc bus bpw bhk bhs bhn bhp bport bopq bpn bpl bhq bq bhf bfg false false []))).q ((cL l (RS.mk bsc bus bpw bhk bhs bhn bhp bport bopq bpn bpl bhq bq bhf bfg false false []))).hf ((cL l (RS.mk bsc bus bpw bhk bhs bhn bhp bport bopq bpn bpl bhq bq bhf bfg false false []))).fg,.int .i64 0]⟩:=(D5 l bsc bus bpw bhk bhs bhn bhp bport bopq bpn bpl bhq bq bhf bfg).to (fun h=>by rw [I4]at h;exact h) (fun _=>by rw [yG])
noncomputable def n5:List PV→Option aF:=fun xs=>match xs with
 |[.str l,bC 0 bsc bus bpw bhk bhs bhn bhp bport bopq bpn bpl bhq bq bhf bfg]=>some ⟨I3 l bsc bus bpw bhk bhs bhn bhp bport bopq bpn bpl bhq bq bhf bfg,.tup [bC 0 ((cL l (RS.mk bsc bus bpw bhk bhs bhn bhp bport bopq bpn bpl bhq bq bhf bfg false false []))).sc ((cL l (RS.mk bsc bus bpw bhk bhs bhn bhp bport bopq bpn bpl bhq bq bhf bfg false false []))).us ((cL l (RS.mk bsc bus bpw bhk bhs bhn bhp bport bopq bpn bpl bhq bq bhf bfg false false []))).pw ((cL l (RS.mk bsc bus bpw bhk bhs bhn bhp bport bopq bpn bpl bhq bq bhf bfg false false []))).hk ((cL l (RS.mk bsc bus bpw bhk bhs bhn bhp bport bopq bpn bpl bhq bq bhf bfg false false []))).hs ((cL l (RS.mk bsc bus bpw bhk bhs bhn bhp bport bopq bpn bpl bhq bq bhf bfg false false []))).hn ((cL l (RS.mk bsc bus bpw bhk bhs bhn bhp bport bopq bpn bpl bhq bq bhf bfg false false []))).hp ((cL l (RS.mk bsc bus bpw bhk bhs bhn bhp bport bopq bpn bpl bhq bq bhf bfg false false []))).port ((cL l (RS.mk bsc bus bpw bhk bhs bhn bhp bport bopq bpn bpl bhq bq bhf bfg false false []))).opq ((cL l (RS.mk bsc bus bpw bhk bhs bhn bhp bport bopq bpn bpl bhq bq bhf bfg false false []))).pn ((cL l (RS.mk bsc bus bpw bhk bhs bhn bhp bport bopq bpn bpl bhq bq bhf bfg false false []))).pl ((cL l (RS.mk bsc bus bpw bhk bhs bhn bhp bport bopq bpn bpl bhq bq bhf bfg false false []))).hq ((cL l (RS.mk bsc bus bpw bhk bhs bhn bhp bport bopq bpn bpl bhq bq bhf bfg false false []))).q ((cL l (RS.mk bsc bus bpw bhk bhs bhn bhp bport bopq bpn bpl bhq bq bhf bfg false false []))).hf ((cL l (RS.mk bsc bus bpw bhk bhs bhn bhp bport bopq bpn bpl bhq bq bhf bfg false false []))).fg,.int .i64 0]⟩
 |_=>none
theorem vN:∀xs c,n5 xs=some c→ag Tryz.prog az 21 xs c:=fun xs c h=>by
 unfold n5 at h
 split at h
 ·injection h with h;subst h;exact GI _ _ _ _ _ _ _ _ _ _ _ _ _ _ _ _
 ·cases h
end
section
def LK:Bs:=[72,84,84,80,58,92,92,117,64,104,58,56,48,47,97,47,46,46,47,98,63]
def LL:Bs:=[102,105,108,101,58,47,47,47,67,58,47,121]
def Lk:Bs:=[46,46,92,120]
def aH:Bs:=[104,116,116,112]
def aV:Bs:=[119,115,115]
noncomputable def n7:RS×Int:=cN LK
noncomputable def n8:RS×Int:=cN LL
noncomputable def aJ:RS:=cL Lk (RS.mk n8.1.sc n8.1.us n8.1.pw n8.1.hk n8.1.hs n8.1.hn n8.1.hp n8.1.port n8.1.opq n8.1.pn n8.1.pl n8.1.hq n8.1.q n8.1.hf n8.1.fg false false [])
theorem LQ:n7.2=0∧n7.1.sc=aH∧n7.1.us=[117]∧n7.1.port=-1∧n7.1.pl=[[98]]∧n7.1.hq=true:=by
 unfold n7;rw [mM];decide+kernel
theorem LR:n8.2=0∧n8.1.sc=fL∧n8.1.opq=false∧n8.1.pl.length≤100000:=by
 unfold n8;rw [mM];decide+kernel
theorem LM:aJ.pl=[[67,58],[120]]:=by
 unfold aJ n8;rw [mM,yG];decide+kernel
noncomputable def BX:cw:=bO [(19,jl),(21,n5),(27,dP)]
def BY:aX:=fun i=>none
theorem AJ:cW Tryz.prog az BX:=ai kM (ai vN (ai dQ (ax)))
theorem GJ(k:PV→Prop):cG Tryz.prog BX az (BY) 1000 Tryz.f14 [] k=(
 LK.length.le (60000:Nat)∧LL.length.le (60000:Nat)∧(Lk.length≤(60000:Nat)∧n8.1.pl.length≤(100000:Nat)∧false=false∧n8.1.opq=false∧n8.1.sc=fL∧aA (aw n8.1.sc) (ao Lk) (0:Int)=false∧bQ (ao Lk)=false∧bo (ao Lk)=false)∧True∧((bif bif bif bif decide (n7.2=(0:Int))then decide (n7.1.sc=aH)else false then decide (n7.1.us=([117]:Bs))else false then decide (n7.1.port=(-1:Int))else false then decide (Int.ofNat n7.1.pl.length=(1:Int))else false)=true→within (0:Int) (Int.ofNat n7.1.pl.length))∧((bif bif bif bif bif bif bif bif bif decide (n7.2=(0:Int))then decide (n7.1.sc=aH)else false then decide (n7.1.us=([117]:Bs))else false then decide (n7.1.port=(-1:Int))else false then decide (Int.ofNat n7.1.pl.length=(1:Int))else false then decide (cf n7.1.pl (0:Int)=([98]:Bs))else false then n7.1.hq else false then decide (n8.2=(0:Int))else false then decide ((0:Int)=(0:Int))else false then decide (Int.ofNat aJ.pl.length=(2:Int))else false)=true→within (1:Int) (Int.ofNat aJ.pl.length))∧k (PV.bool (bif bif bif bif bif bif bif bif bif bif bif bif decide (n7.2=(0:Int))then decide (n7.1.sc=aH)else false then decide (n7.1.us=([117]:Bs))else false then decide (n7.1.port=(-1:Int))else false then decide (Int.ofNat n7.1.pl.length=(1:Int))else false then decide (cf n7.1.pl (0:Int)=([98]:Bs))else false then n7.1.hq else false then decide (n8.2=(0:Int))else false then decide ((0:Int)=(0:Int))else false then decide (Int.ofNat aJ.pl.length=(2:Int))else false then decide (cf aJ.pl (1:Int)=([120]:Bs))else false then decide (Ie aV=(443:Int))else false then aw aV else false))):=by kernel_rfl
attribute [local irreducible] Go.Vc.cG
theorem GK:ag Tryz.prog az 14 [] ⟨True,.bool true⟩:=b7 (by kernel_rfl) AJ (H:=BY) (fuel:=1000) Tryz.func14 (by kernel_rfl) fun hpre=>(GJ _).mpr (by
 obtain ⟨h1,h2,h3,h4,h5,h6⟩:=LQ
 obtain ⟨g1,g2,g3,g4⟩:=LR
 refine ⟨show(21:Nat)≤60000 by decide,show(12:Nat)≤60000 by decide,⟨show(4:Nat)≤60000 by decide,g4,rfl,g3,g2,by rw [g2];decide,by decide,by decide⟩,trivial,fun _=>by rw [h5];exact ⟨by decide,by decide⟩,fun _=>by rw [LM];exact ⟨by decide,by decide⟩,?_⟩
 rw [h1,h2,h3,h4,h5,h6,g1,LM]
 exact congrArg PV.bool (by decide+kernel))
def n9:List PV→Option aF:=fun xs=>match xs with
 |[]=>some ⟨True,.bool true⟩
 |_=>none
theorem vO:∀xs c,n9 xs=some c→ag Tryz.prog az 14 xs c:=fun xs c h=>by
 unfold n9 at h
 split at h
 ·injection h with h;subst h;exact GK
 ·cases h
end
section
theorem rD(b:Bool):dc Tryz.prog (4:Nat) (.bool b) (0:Nat)=.bool b:=by cases b<;>kernel_rfl
theorem JB(bs:List Bool){n:Nat}(h:n<bs.length):AN (bs.map PV.bool) (n:Int)=.bool (bs.getD n false):=by
 unfold AN
 rw [Int.toNat_natCast,List.getD_eq_getElem?_getD,List.getD_eq_getElem?_getD,List.getElem?_map,List.getElem?_eq_getElem h];rfl
theorem GL(bs:List Bool):ak (bs.map PV.bool)=(bs.length:Int):=by unfold ak;rw [List.length_map]
theorem Ll(bs:List Bool)(n:Nat):(bif decide ((n:Int)<ak (bs.map PV.bool))then(dc Tryz.prog (4:Nat) (AN (bs.map PV.bool) (n:Int)) (0:Nat)).asBool else false)=bs.getD n false:=by
 rw [GL]
 by_cases h:n<bs.length
 ·rw [JB bs h,rD,decide_eq_true (by omega)];rfl
 ·rw [decide_eq_false (by omega),List.getD_eq_getElem?_getD,List.getElem?_eq_none (by omega)];rfl
theorem I5(bs:List Bool)(n:Nat)(h:decide ((n:Int)<ak (bs.map PV.bool))=true):dc Tryz.prog (4:Nat) (AN (bs.map PV.bool) (n:Int)) (0:Nat)=PV.bool (dc Tryz.prog (4:Nat) (AN (bs.map PV.bool) (n:Int)) (0:Nat)).asBool:=by
 have h:=of_decide_eq_true h
 rw [GL]at h
 rw [JB bs (by omega),rD];rfl
def cd:List Bs:=[[97],[98,46,99],[],[46],[46,46],[37,50,101],[46,37,50,69],[46,46,46]]
def rE(bs:List Bool)(j:Nat):UInt8:=if bs.getD j false=true then 92 else 47
def kN(ns:List Int)(j:Nat):Bs:=cf cd (bX (bP ns (j:Int)) 8)
def ju(ns:List Int)(bs:List Bool):List (UInt8×Bs):=(List.range ns.length).map fun j=>(rE bs j,kN ns j)
structure I6(ns:List Int)(bs:List Bool)(s:Bs)(w:List Bs)(j:Nat):Prop where
 le:j≤ns.length
 txt:s++cS ((ju ns bs).drop j)=hB++cS (ju ns bs)
 pts:mL (((ju ns bs).drop j).map (·.2)) w=mL ((ju ns bs).map (·.2)) []
 sl:s.length≤8+5*j
 wl:w.length≤j
def jv(ns:List Int)(bs:List Bool)(s:Bs)(w:Bool×List Bs)(i:Int):Prop:=∃j:Nat,i=j∧I6 ns bs s w.2 j
theorem oa {ns:List Int}{bs:List Bool}{j:Nat}(h:j<ns.length):(ju ns bs).drop j=(rE bs j,kN ns j)::(ju ns bs).drop (j+1):=by
 have hl:(ju ns bs).length=ns.length:=by unfold ju;rw [List.length_map,List.length_range]
 rw [List.drop_eq_getElem_cons (by omega)]
 congr 1
 unfold ju
 rw [List.getElem_map,List.getElem_range]
theorem yH(ns:List Int)(bs:List Bool){j:Nat}(h:ns.length≤j):(ju ns bs).drop j=[]:=by
 unfold ju;rw [List.drop_eq_nil_iff,List.length_map,List.length_range];exact h
theorem rF(ns:List Int)(j:Nat):I2 (kN ns j)∧(kN ns j).length≤4:=by
 unfold kN
 have h:=uQ (bP ns (j:Int)) 8 (by omega)
 generalize bX (bP ns (j:Int)) 8=K at *
 have:K=0∨K=1∨K=2∨K=3∨K=4∨K=5∨K=6∨K=7:=by omega
 rcases this with rfl|rfl|rfl|rfl|rfl|rfl|rfl|rfl<;>(unfold I2;decide)
theorem I7(ns:List Int)(bs:List Bool):∀e∈ju ns bs,KN e.1∧I2 e.2:=fun e he=>by
 unfold ju at he
 obtain ⟨j,-,rfl⟩:=List.mem_map.1 he
 refine ⟨?_,(rF ns j).1⟩
 unfold KN rE
 dsimp only
 split
 ·exact .inr rfl
 ·exact .inl rfl
theorem I6.next {ns:List Int}{bs:List Bool}{s:Bs}{w w':List Bs}{j:Nat}(h:I6 ns bs s w j)(hj:j<ns.length)(hw:w'=gW (decide (j+1=ns.length)) w (kN ns j))(hl:w'.length≤j+1):I6 ns bs (s++[rE bs j]++kN ns j) w' (j+1):=by
 have ht:=h.txt
 have hp:=h.pts
 rw [oa hj]at ht hp
 refine ⟨by omega,?_,?_,?_,hl⟩
 ·rw [←ht,cS]
  simp only [List.append_assoc,List.cons_append,List.nil_append]
 ·rw [←hp,hw]
  by_cases e:j+1=ns.length
  ·rw [yH ns bs (by omega),decide_eq_true e];rfl
  ·rw [decide_eq_false e,oa (j:=j+1) (by omega)];rfl
 ·have:=(rF ns j).2
  have:=h.sl
  rw [List.length_append,List.length_append,List.length_singleton]
  omega
def sk(w:List Bs):List Bs:=if w=[]then w else w.take (w.length-1)
theorem d46 {K:Int}(h:K=4∨K=6)(l:Bool)(w:List Bs):gW l w (cf cd K)=if l=true then sk w++[[]]else sk w:=by
 have hs:(bN fH (false,w)).2=sk w:=by
  unfold bN sk
  dsimp only
  by_cases e:w=[]
  ·rw [if_pos (.inl e),if_pos e]
  ·rw [if_neg (by rintro (h|⟨-,h,-⟩);exact e h;revert h;decide),if_neg e]
 have key:∀p:Bs,jq p=true→gW l w p=if l=true then sk w++[[]]else sk w:=fun p hp=>by
  unfold gW cp nH
  rw [if_pos hp]
  cases l
  ·exact hs
  ·exact congrArg (· ++[[]]) hs
 rcases h with rfl|rfl<;>exact key _ (by decide+kernel)
theorem d35 {K:Int}(h:K=3∨K=5)(l:Bool)(w:List Bs):gW l w (cf cd K)=if l=true then w++[[]]else w:=by
 have key:∀p:Bs,jq p=false→ku p=true→gW l w p=if l=true then w++[[]]else w:=fun p h1 h2=>by
  unfold gW cp nH
  rw [if_neg (by rw [h1];decide),if_pos h2]
  cases l<;>rfl
 rcases h with rfl|rfl<;>exact key _ (by decide+kernel) (by decide+kernel)
theorem Lm {K:Int}(h0:0≤K)(h8:K<8)(h:¬(K=4∨K=6))(h2:¬(K=3∨K=5))(l:Bool)(w:List Bs):gW l w (cf cd K)=w++[cf cd K]:=by
 have key:∀p:Bs,jq p=false→ku p=false→bl 4 p=p→gW l w p=w++[p]:=fun p h1 h2 h3=>by
  unfold gW cp
  rw [if_neg (by rw [h1];decide),if_neg (by rw [h2];decide),if_neg (by rintro ⟨h,-⟩;revert h;decide),h3]
 have:K=0∨K=1∨K=2∨K=7:=by omega
 rcases this with rfl|rfl|rfl|rfl<;>exact key _ (by decide+kernel) (by decide+kernel) (by decide+kernel)
noncomputable def BZ:cw:=bO [(17,uR),(19,jl),(14,n9),(23,lE)]
def B3(nl:Bool)(ns:List Int)(nb:Bool)(eV:List PV)(bs:List Bool):aX:=fun i=>bif Nat.beq i 7 then some ⟨(Bs)×(Bool×List Bs)×(Int),(fun s x=>(((((((((((((((s.put 6 (.str x.1)).row s 7 x.2.1.1 (.strs x.2.1.2)).put 8 (.int .i64 x.2.2)).put 9 .undef).put 10 .undef).put 11 .undef).put 27 .undef).put 39 .undef).put 65 .undef).put 71 .undef).put 74 .undef).put 80 .undef).put 84 .undef).put 90 .undef).put 91 .undef)),(fun s=>(s.str 6,(s.nil 7,s.strs 7),s.int 8)),(fun s x=>let q:=x.1;let w:=x.2.1;let i:=x.2.2;jv ns bs q w i),(fun s x=>let q:=x.1;let w:=x.2.1;let i:=x.2.2;((ns.length:Int)-i).toNat),[9,10,11,27,39,65,71,74,80,84,90,91]⟩else none
theorem AK:cW Tryz.prog az BZ:=ai zK (ai kM (ai vO (ai si (ax))))
theorem GM(nl:Bool)(ns:List Int)(nb:Bool)(eV:List PV)(bs:List Bool)(k:PV→Prop):cG Tryz.prog BZ az (B3 nl ns nb eV bs) 1000 Tryz.f6 [.row nl (.ints .i64 ns) 0,.vec nb 1 eV 0] k=(
 ((bif decide (Int.ofNat ns.length<(1:Int))then true else decide ((12:Int)<Int.ofNat ns.length))=true→True∧k (PV.bool true))∧((bif decide (Int.ofNat ns.length<(1:Int))then true else decide ((12:Int)<Int.ofNat ns.length))=false→VS.mk [] [(0,PV.row nl (an.ints .i64 ns) (0:Nat)),(1,PV.vec nb (1:Nat) eV (0:Nat)),(4,PV.bool false),(5,PV.row false (an.strs cd) (0:Nat)),(6,PV.str hB),(7,PV.row true (an.strs []) ((7:Nat)+(32:Nat))),(8,PV.int .i64 (0:Int)),((9:Nat),PV.undef),((10:Nat),PV.undef),((11:Nat),PV.undef),(12,PV.undef),(13,PV.undef),(21,PV.bool (bif decide (Int.ofNat ns.length<(1:Int))then true else decide ((12:Int)<Int.ofNat ns.length))),((27:Nat),PV.undef),((39:Nat),PV.undef),((65:Nat),PV.undef),((74:Nat),PV.undef),((80:Nat),PV.undef),((84:Nat),PV.undef),((91:Nat),PV.undef)] []=VS.mk [] [(0,PV.row nl (an.ints .i64 ns) (0:Nat)),(1,PV.vec nb (1:Nat) eV (0:Nat)),(4,PV.bool false),(5,PV.row false (an.strs cd) (0:Nat)),((6:Nat),PV.str hB),((7:Nat),PV.row true (an.strs []) ((7:Nat)+(32:Nat))),((8:Nat),PV.int .i64 (0:Int)),((9:Nat),PV.undef),((10:Nat),PV.undef),((11:Nat),PV.undef),(12,PV.undef),(13,PV.undef),(21,PV.bool (bif decide (Int.ofNat ns.length<(1:Int))then true else decide ((12:Int)<Int.ofNat ns.length))),((27:Nat),PV.undef),((39:Nat),PV.undef),((65:Nat),PV.undef),((74:Nat),PV.undef),((80:Nat),PV.undef),((84:Nat),PV.undef),((91:Nat),PV.undef)] []∧jv ns bs hB (true,[]) (0:Int)∧∀(x:Bs×(Bool×List Bs)×Int),jv ns bs x.1 x.2.1 x.2.2→(decide (x.2.2<Int.ofNat ns.length)=true→(decide (x.2.2<ak eV)=true→within x.2.2 (ak eV))∧(decide (x.2.2<ak eV)=true→dc Go.Proofs.Tryz.prog (4:Nat) (AN eV x.2.2) (0:Nat)=PV.bool (dc Go.Proofs.Tryz.prog (4:Nat) (AN eV x.2.2) (0:Nat)).asBool)∧((bif decide (x.2.2<ak eV)then(dc Go.Proofs.Tryz.prog (4:Nat) (AN eV x.2.2) (0:Nat)).asBool else false)=true→within x.2.2 (Int.ofNat ns.length)∧((-9223372036854775808:Int)≤bP ns x.2.2∧bP ns x.2.2≤(9223372036854775807:Int)∧(1:Int)≤(8:Int)∧(8:Int)≤(4611686018427387904:Int))∧List.length x.1+([92]:Bs).length≤Go.Vc.maxLen∧within (bX (bP ns x.2.2) (8:Int)) (Int.ofNat cd.length)∧List.length (x.1++([92]:Bs))+List.length (cf cd (bX (bP ns x.2.2) (8:Int)))≤Go.Vc.maxLen∧ay (Int.ofNat ns.length-(1:Int))∧((bif decide (bX (bP ns x.2.2) (8:Int)=(4:Int))then true else decide (bX (bP ns x.2.2) (8:Int)=(6:Int)))=true→(decide ((0:Int)<Int.ofNat x.2.1.2.length)=true→ay (Int.ofNat x.2.1.2.length-(1:Int))∧upto (0:Int) (Int.ofNat x.2.1.2.length-(1:Int)) (Int.ofNat x.2.1.2.length)∧(decide (x.2.2=Int.ofNat ns.length-(1:Int))=true→Int.ofNat (ae x.2.1.2 (Int.ofNat x.2.1.2.length-(1:Int))++[([]:Bs)]).length≤cq∧ay (x.2.2+(1:Int))∧kz (VS.mk [] [(0,PV.row nl (an.ints .i64 ns) (0:Nat)),(1,PV.vec nb (1:Nat) eV (0:Nat)),(4,PV.bool false),(5,PV.row false (an.strs cd) (0:Nat)),((6:Nat),PV.str (x.1++([92]:Bs)++cf cd (bX (bP ns x.2.2) (8:Int)))),((7:Nat),PV.row false (an.strs (ae x.2.1.2 (Int.ofNat x.2.1.2.length-(1:Int))++[([]:Bs)])) ((7:Nat)+(32:Nat))),((8:Nat),PV.int .i64 (x.2.2+(1:Int))),((9:Nat),PV.undef),((10:Nat),PV.undef),((11:Nat),PV.undef),(12,PV.undef),(13,PV.undef),(21,PV.bool (bif decide (Int.ofNat ns.length<(1:Int))then true else decide ((12:Int)<Int.ofNat ns.length))),((27:Nat),PV.undef),((39:Nat),PV.undef),((65:Nat),PV.undef),((74:Nat),PV.undef),((80:Nat),PV.undef),((84:Nat),PV.undef),((91:Nat),PV.undef)] [])∧jv ns bs (x.1++([92]:Bs)++cf cd (bX (bP ns x.2.2) (8:Int))) (false,ae x.2.1.2 (Int.ofNat x.2.1.2.length-(1:Int))++[([]:Bs)]) (x.2.2+(1:Int))∧(↑ns.length-(x.2.2+(1:Int))).toNat<(↑ns.length-x.2.2).toNat)∧(decide (x.2.2=Int.ofNat ns.length-(1:Int))=false→ay (x.2.2+(1:Int))∧kz (VS.mk [] [(0,PV.row nl (an.ints .i64 ns) (0:Nat)),(1,PV.vec nb (1:Nat) eV (0:Nat)),(4,PV.bool false),(5,PV.row false (an.strs cd) (0:Nat)),((6:Nat),PV.str (x.1++([92]:Bs)++cf cd (bX (bP ns x.2.2) (8:Int)))),((7:Nat),PV.row x.2.1.1 (an.strs (ae x.2.1.2 (Int.ofNat x.2.1.2.length-(1:Int)))) ((7:Nat)+(32:Nat))),((8:Nat),PV.int .i64 (x.2.2+(1:Int))),((9:Nat),PV.undef),((10:Nat),PV.undef),((11:Nat),PV.undef),(12,PV.undef),(13,PV.undef),(21,PV.bool (bif decide (Int.ofNat ns.length<(1:Int))then true else decide ((12:Int)<Int.ofNat ns.length))),((27:Nat),PV.undef),((39:Nat),PV.undef),((65:Nat),PV.undef),((74:Nat),PV.undef),((80:Nat),PV.undef),((84:Nat),PV.undef),((91:Nat),PV.undef)] [])∧jv ns bs (x.1++([92]:Bs)++cf cd (bX (bP ns x.2.2) (8:Int))) (x.2.1.1,ae x.2.1.2 (Int.ofNat x.2.1.2.length-(1:Int))) (x.2.2+(1:Int))∧(↑ns.length-(x.2.2+(1:Int))).toNat<(↑ns.length-x.2.2).toNat))∧(decide ((0:Int)<Int.ofNat x.2.1.2.length)=false→(decide (x.2.2=Int.ofNat ns.length-(1:Int))=true→Int.ofNat (x.2.1.2++[([]:Bs)]).length≤cq∧ay (x.2.2+(1:Int))∧kz (VS.mk [] [(0,PV.row nl (an.ints .i64 ns) (0:Nat)),(1,PV.vec nb (1:Nat) eV (0:Nat)),(4,PV.bool false),(5,PV.row false (an.strs cd) (0:Nat)),((6:Nat),PV.str (x.1++([92]:Bs)++cf cd (bX (bP ns x.2.2) (8:Int)))),((7:Nat),PV.row false (an.strs (x.2.1.2++[([]:Bs)])) ((7:Nat)+(32:Nat))),((8:Nat),PV.int .i64 (x.2.2+(1:Int))),((9:Nat),PV.undef),((10:Nat),PV.undef),((11:Nat),PV.undef),(12,PV.undef),(13,PV.undef),(21,PV.bool (bif decide (Int.ofNat ns.length<(1:Int))then true else decide ((12:Int)<Int.ofNat ns.length))),((27:Nat),PV.undef),((39:Nat),PV.undef),((65:Nat),PV.undef),((74:Nat),PV.undef),((80:Nat),PV.undef),((84:Nat),PV.undef),((91:Nat),PV.undef)] [])∧jv ns bs (x.1++([92]:Bs)++cf cd (bX (bP ns x.2.2) (8:Int))) (false,x.2.1.2++[([]:Bs)]) (x.2.2+(1:Int))∧(↑ns.length-(x.2.2+(1:Int))).toNat<(↑ns.length-x.2.2).toNat)∧(decide (x.2.2=Int.ofNat ns.length-(1:Int))=false→ay (x.2.2+(1:Int))∧kz (VS.mk [] [(0,PV.row nl (an.ints .i64 ns) (0:Nat)),(1,PV.vec nb (1:Nat) eV (0:Nat)),(4,PV.bool false),(5,PV.row false (an.strs cd) (0:Nat)),((6:Nat),PV.str (x.1++([92]:Bs)++cf cd (bX (bP ns x.2.2) (8:Int)))),((7:Nat),PV.row x.2.1.1 (an.strs x.2.1.2) ((7:Nat)+(32:Nat))),((8:Nat),PV.int .i64 (x.2.2+(1:Int))),((9:Nat),PV.undef),((10:Nat),PV.undef),((11:Nat),PV.undef),(12,PV.undef),(13,PV.undef),(21,PV.bool (bif decide (Int.ofNat ns.length<(1:Int))then true else decide ((12:Int)<Int.ofNat ns.length))),((27:Nat),PV.undef),((39:Nat),PV.undef),((65:Nat),PV.undef),((74:Nat),PV.undef),((80:Nat),PV.undef),((84:Nat),PV.undef),((91:Nat),PV.undef)] [])∧jv ns bs (x.1++([92]:Bs)++cf cd (bX (bP ns x.2.2) (8:Int))) (x.2.1.1,x.2.1.2) (x.2.2+(1:Int))∧(↑ns.length-(x.2.2+(1:Int))).toNat<(↑ns.length-x.2.2).toNat)))∧((bif decide (bX (bP ns x.2.2) (8:Int)=(4:Int))then true else decide (bX (bP ns x.2.2) (8:Int)=(6:Int)))=false→((bif decide (bX (bP ns x.2.2) (8:Int)=(3:Int))then true else decide (bX (bP ns x.2.2) (8:Int)=(5:Int)))=true→(decide (x.2.2=Int.ofNat ns.length-(1:Int))=true→Int.ofNat (x.2.1.2++[([]:Bs)]).length≤cq∧ay (x.2.2+(1:Int))∧kz (VS.mk [] [(0,PV.row nl (an.ints .i64 ns) (0:Nat)),(1,PV.vec nb (1:Nat) eV (0:Nat)),(4,PV.bool false),(5,PV.row false (an.strs cd) (0:Nat)),((6:Nat),PV.str (x.1++([92]:Bs)++cf cd (bX (bP ns x.2.2) (8:Int)))),((7:Nat),PV.row false (an.strs (x.2.1.2++[([]:Bs)])) ((7:Nat)+(32:Nat))),((8:Nat),PV.int .i64 (x.2.2+(1:Int))),((9:Nat),PV.undef),((10:Nat),PV.undef),((11:Nat),PV.undef),(12,PV.undef),(13,PV.undef),(21,PV.bool (bif decide (Int.ofNat ns.length<(1:Int))then true else decide ((12:Int)<Int.ofNat ns.length))),((27:Nat),PV.undef),((39:Nat),PV.undef),((65:Nat),PV.undef),((74:Nat),PV.undef),((80:Nat),PV.undef),((84:Nat),PV.undef),((91:Nat),PV.undef)] [])∧jv ns bs (x.1++([92]:Bs)++cf cd (bX (bP ns x.2.2) (8:Int))) (false,x.2.1.2++[([]:Bs)]) (x.2.2+(1:Int))∧(↑ns.length-(x.2.2+(1:Int))).toNat<(↑ns.length-x.2.2).toNat)∧(decide (x.2.2=Int.ofNat ns.length-(1:Int))=false→ay (x.2.2+(1:Int))∧kz (VS.mk [] [(0,PV.row nl (an.ints .i64 ns) (0:Nat)),(1,PV.vec nb (1:Nat) eV (0:Nat)),(4,PV.bool false),(5,PV.row false (an.strs cd) (0:Nat)),((6:Nat),PV.str (x.1++([92]:Bs)++cf cd (bX (bP ns x.2.2) (8:Int)))),((7:Nat),PV.row x.2.1.1 (an.strs x.2.1.2) ((7:Nat)+(32:Nat))),((8:Nat),PV.int .i64 (x.2.2+(1:Int))),((9:Nat),PV.undef),((10:Nat),PV.undef),((11:Nat),PV.undef),(12,PV.undef),(13,PV.undef),(21,PV.bool (bif decide (Int.ofNat ns.length<(1:Int))then true else decide ((12:Int)<Int.ofNat ns.length))),((27:Nat),PV.undef),((39:Nat),PV.undef),((65:Nat),PV.undef),((74:Nat),PV.undef),((80:Nat),PV.undef),((84:Nat),PV.undef),((91:Nat),PV.undef)] [])∧jv ns bs (x.1++([92]:Bs)++cf cd (bX (bP ns x.2.2) (8:Int))) (x.2.1.1,x.2.1.2) (x.2.2+(1:Int))∧(↑ns.length-(x.2.2+(1:Int))).toNat<(↑ns.length-x.2.2).toNat))∧((bif decide (bX (bP ns x.2.2) (8:Int)=(3:Int))then true else decide (bX (bP ns x.2.2) (8:Int)=(5:Int)))=false→within (bX (bP ns x.2.2) (8:Int)) (Int.ofNat cd.length)∧Int.ofNat (x.2.1.2++[cf cd (bX (bP ns x.2.2) (8:Int))]).length≤cq∧ay (x.2.2+(1:Int))∧kz (VS.mk [] [(0,PV.row nl (an.ints .i64 ns) (0:Nat)),(1,PV.vec nb (1:Nat) eV (0:Nat)),(4,PV.bool false),(5,PV.row false (an.strs cd) (0:Nat)),((6:Nat),PV.str (x.1++([92]:Bs)++cf cd (bX (bP ns x.2.2) (8:Int)))),((7:Nat),PV.row false (an.strs (x.2.1.2++[cf cd (bX (bP ns x.2.2) (8:Int))])) ((7:Nat)+(32:Nat))),((8:Nat),PV.int .i64 (x.2.2+(1:Int))),((9:Nat),PV.undef),((10:Nat),PV.undef),((11:Nat),PV.undef),(12,PV.undef),(13,PV.undef),(21,PV.bool (bif decide (Int.ofNat ns.length<(1:Int))then true else decide ((12:Int)<Int.ofNat ns.length))),((27:Nat),PV.undef),((39:Nat),PV.undef),((65:Nat),PV.undef),((74:Nat),PV.undef),((80:Nat),PV.undef),((84:Nat),PV.undef),((91:Nat),PV.undef)] [])∧jv ns bs (x.1++([92]:Bs)++cf cd (bX (bP ns x.2.2) (8:Int))) (false,x.2.1.2++[cf cd (bX (bP ns x.2.2) (8:Int))]) (x.2.2+(1:Int))∧(↑ns.length-(x.2.2+(1:Int))).toNat<(↑ns.length-x.2.2).toNat)))∧((bif decide (x.2.2<ak eV)then(dc Go.Proofs.Tryz.prog (4:Nat) (AN eV x.2.2) (0:Nat)).asBool else false)=false→within x.2.2 (Int.ofNat ns.length)∧((-9223372036854775808:Int)≤bP ns x.2.2∧bP ns x.2.2≤(9223372036854775807:Int)∧(1:Int)≤(8:Int)∧(8:Int)≤(4611686018427387904:Int))∧List.length x.1+([47]:Bs).length≤Go.Vc.maxLen∧within (bX (bP ns x.2.2) (8:Int)) (Int.ofNat cd.length)∧List.length (x.1++([47]:Bs))+List.length (cf cd (bX (bP ns x.2.2) (8:Int)))≤Go.Vc.maxLen∧ay (Int.ofNat ns.length-(1:Int))∧((bif decide (bX (bP ns x.2.2) (8:Int)=(4:Int))then true else decide (bX (bP ns x.2.2) (8:Int)=(6:Int)))=true→(decide ((0:Int)<Int.ofNat x.2.1.2.length)=true→ay (Int.ofNat x.2.1.2.length-(1:Int))∧upto (0:Int) (Int.ofNat x.2.1.2.length-(1:Int)) (Int.ofNat x.2.1.2.length)∧(decide (x.2.2=Int.ofNat ns.length-(1:Int))=true→Int.ofNat (ae x.2.1.2 (Int.ofNat x.2.1.2.length-(1:Int))++[([]:Bs)]).length≤cq∧ay (x.2.2+(1:Int))∧kz (VS.mk [] [(0,PV.row nl (an.ints .i64 ns) (0:Nat)),(1,PV.vec nb (1:Nat) eV (0:Nat)),(4,PV.bool false),(5,PV.row false (an.strs cd) (0:Nat)),((6:Nat),PV.str (x.1++([47]:Bs)++cf cd (bX (bP ns x.2.2) (8:Int)))),((7:Nat),PV.row false (an.strs (ae x.2.1.2 (Int.ofNat x.2.1.2.length-(1:Int))++[([]:Bs)])) ((7:Nat)+(32:Nat))),((8:Nat),PV.int .i64 (x.2.2+(1:Int))),((9:Nat),PV.undef),((10:Nat),PV.undef),((11:Nat),PV.undef),(12,PV.undef),(13,PV.undef),(21,PV.bool (bif decide (Int.ofNat ns.length<(1:Int))then true else decide ((12:Int)<Int.ofNat ns.length))),((27:Nat),PV.undef),((39:Nat),PV.undef),((65:Nat),PV.undef),((74:Nat),PV.undef),((80:Nat),PV.undef),((84:Nat),PV.undef),((91:Nat),PV.undef)] [])∧jv ns bs (x.1++([47]:Bs)++cf cd (bX (bP ns x.2.2) (8:Int))) (false,ae x.2.1.2 (Int.ofNat x.2.1.2.length-(1:Int))++[([]:Bs)]) (x.2.2+(1:Int))∧(↑ns.length-(x.2.2+(1:Int))).toNat<(↑ns.length-x.2.2).toNat)∧(decide (x.2.2=Int.ofNat ns.length-(1:Int))=false→ay (x.2.2+(1:Int))∧kz (VS.mk [] [(0,PV.row nl (an.ints .i64 ns) (0:Nat)),(1,PV.vec nb (1:Nat) eV (0:Nat)),(4,PV.bool false),(5,PV.row false (an.strs cd) (0:Nat)),((6:Nat),PV.str (x.1++([47]:Bs)++cf cd (bX (bP ns x.2.2) (8:Int)))),((7:Nat),PV.row x.2.1.1 (an.strs (ae x.2.1.2 (Int.ofNat x.2.1.2.length-(1:Int)))) ((7:Nat)+(32:Nat))),((8:Nat),PV.int .i64 (x.2.2+(1:Int))),((9:Nat),PV.undef),((10:Nat),PV.undef),((11:Nat),PV.undef),(12,PV.undef),(13,PV.undef),(21,PV.bool (bif decide (Int.ofNat ns.length<(1:Int))then true else decide ((12:Int)<Int.ofNat ns.length))),((27:Nat),PV.undef),((39:Nat),PV.undef),((65:Nat),PV.undef),((74:Nat),PV.undef),((80:Nat),PV.undef),((84:Nat),PV.undef),((91:Nat),PV.undef)] [])∧jv ns bs (x.1++([47]:Bs)++cf cd (bX (bP ns x.2.2) (8:Int))) (x.2.1.1,ae x.2.1.2 (Int.ofNat x.2.1.2.length-(1:Int))) (x.2.2+(1:Int))∧(↑ns.length-(x.2.2+(1:Int))).toNat<(↑ns.length-x.2.2).toNat))∧(decide ((0:Int)<Int.ofNat x.2.1.2.length)=false→(decide (x.2.2=Int.ofNat ns.length-(1:Int))=true→Int.ofNat (x.2.1.2++[([]:Bs)]).length≤cq∧ay (x.2.2+(1:Int))∧kz (VS.mk [] [(0,PV.row nl (an.ints .i64 ns) (0:Nat)),(1,PV.vec nb (1:Nat) eV (0:Nat)),(4,PV.bool false),(5,PV.row false (an.strs cd) (0:Nat)),((6:Nat),PV.str (x.1++([47]:Bs)++cf cd (bX (bP ns x.2.2) (8:Int)))),((7:Nat),PV.row false (an.strs (x.2.1.2++[([]:Bs)])) ((7:Nat)+(32:Nat))),((8:Nat),PV.int .i64 (x.2.2+(1:Int))),((9:Nat),PV.undef),((10:Nat),PV.undef),((11:Nat),PV.undef),(12,PV.undef),(13,PV.undef),(21,PV.bool (bif decide (Int.ofNat ns.length<(1:Int))then true else decide ((12:Int)<Int.ofNat ns.length))),((27:Nat),PV.undef),((39:Nat),PV.undef),((65:Nat),PV.undef),((74:Nat),PV.undef),((80:Nat),PV.undef),((84:Nat),PV.undef),((91:Nat),PV.undef)] [])∧jv ns bs (x.1++([47]:Bs)++cf cd (bX (bP ns x.2.2) (8:Int))) (false,x.2.1.2++[([]:Bs)]) (x.2.2+(1:Int))∧(↑ns.length-(x.2.2+(1:Int))).toNat<(↑ns.length-x.2.2).toNat)∧(decide (x.2.2=Int.ofNat ns.length-(1:Int))=false→ay (x.2.2+(1:Int))∧kz (VS.mk [] [(0,PV.row nl (an.ints .i64 ns) (0:Nat)),(1,PV.vec nb (1:Nat) eV (0:Nat)),(4,PV.bool false),(5,PV.row false (an.strs cd) (0:Nat)),((6:Nat),PV.str (x.1++([47]:Bs)++cf cd (bX (bP ns x.2.2) (8:Int)))),((7:Nat),PV.row x.2.1.1 (an.strs x.2.1.2) ((7:Nat)+(32:Nat))),((8:Nat),PV.int .i64 (x.2.2+(1:Int))),((9:Nat),PV.undef),((10:Nat),PV.undef),((11:Nat),PV.undef),(12,PV.undef),(13,PV.undef),(21,PV.bool (bif decide (Int.ofNat ns.length<(1:Int))then true else decide ((12:Int)<Int.ofNat ns.length))),((27:Nat),PV.undef),((39:Nat),PV.undef),((65:Nat),PV.undef),((74:Nat),PV.undef),((80:Nat),PV.undef),((84:Nat),PV.undef),((91:Nat),PV.undef)] [])∧jv ns bs (x.1++([47]:Bs)++cf cd (bX (bP ns x.2.2) (8:Int))) (x.2.1.1,x.2.1.2) (x.2.2+(1:Int))∧(↑ns.length-(x.2.2+(1:Int))).toNat<(↑ns.length-x.2.2).toNat)))∧((bif decide (bX (bP ns x.2.2) (8:Int)=(4:Int))then true else decide (bX (bP ns x.2.2) (8:Int)=(6:Int)))=false→((bif decide (bX (bP ns x.2.2) (8:Int)=(3:Int))then true else decide (bX (bP ns x.2.2) (8:Int)=(5:Int)))=true→(decide (x.2.2=Int.ofNat ns.length-(1:Int))=true→Int.ofNat (x.2.1.2++[([]:Bs)]).length≤cq∧ay (x.2.2+(1:Int))∧kz (VS.mk [] [(0,PV.row nl (an.ints .i64 ns) (0:Nat)),(1,PV.vec nb (1:Nat) eV (0:Nat)),(4,PV.bool false),(5,PV.row false (an.strs cd) (0:Nat)),((6:Nat),PV.str (x.1++([47]:Bs)++cf cd (bX (bP ns x.2.2) (8:Int)))),((7:Nat),PV.row false (an.strs (x.2.1.2++[([]:Bs)])) ((7:Nat)+(32:Nat))),((8:Nat),PV.int .i64 (x.2.2+(1:Int))),((9:Nat),PV.undef),((10:Nat),PV.undef),((11:Nat),PV.undef),(12,PV.undef),(13,PV.undef),(21,PV.bool (bif decide (Int.ofNat ns.length<(1:Int))then true else decide ((12:Int)<Int.ofNat ns.length))),((27:Nat),PV.undef),((39:Nat),PV.undef),((65:Nat),PV.undef),((74:Nat),PV.undef),((80:Nat),PV.undef),((84:Nat),PV.undef),((91:Nat),PV.undef)] [])∧jv ns bs (x.1++([47]:Bs)++cf cd (bX (bP ns x.2.2) (8:Int))) (false,x.2.1.2++[([]:Bs)]) (x.2.2+(1:Int))∧(↑ns.length-(x.2.2+(1:Int))).toNat<(↑ns.length-x.2.2).toNat)∧(decide (x.2.2=Int.ofNat ns.length-(1:Int))=false→ay (x.2.2+(1:Int))∧kz (VS.mk [] [(0,PV.row nl (an.ints .i64 ns) (0:Nat)),(1,PV.vec nb (1:Nat) eV (0:Nat)),(4,PV.bool false),(5,PV.row false (an.strs cd) (0:Nat)),((6:Nat),PV.str (x.1++([47]:Bs)++cf cd (bX (bP ns x.2.2) (8:Int)))),((7:Nat),PV.row x.2.1.1 (an.strs x.2.1.2) ((7:Nat)+(32:Nat))),((8:Nat),PV.int .i64 (x.2.2+(1:Int))),((9:Nat),PV.undef),((10:Nat),PV.undef),((11:Nat),PV.undef),(12,PV.undef),(13,PV.undef),(21,PV.bool (bif decide (Int.ofNat ns.length<(1:Int))then true else decide ((12:Int)<Int.ofNat ns.length))),((27:Nat),PV.undef),((39:Nat),PV.undef),((65:Nat),PV.undef),((74:Nat),PV.undef),((80:Nat),PV.undef),((84:Nat),PV.undef),((91:Nat),PV.undef)] [])∧jv ns bs (x.1++([47]:Bs)++cf cd (bX (bP ns x.2.2) (8:Int))) (x.2.1.1,x.2.1.2) (x.2.2+(1:Int))∧(↑ns.length-(x.2.2+(1:Int))).toNat<(↑ns.length-x.2.2).toNat))∧((bif decide (bX (bP ns x.2.2) (8:Int)=(3:Int))then true else decide (bX (bP ns x.2.2) (8:Int)=(5:Int)))=false→within (bX (bP ns x.2.2) (8:Int)) (Int.ofNat cd.length)∧Int.ofNat (x.2.1.2++[cf cd (bX (bP ns x.2.2) (8:Int))]).length≤cq∧ay (x.2.2+(1:Int))∧kz (VS.mk [] [(0,PV.row nl (an.ints .i64 ns) (0:Nat)),(1,PV.vec nb (1:Nat) eV (0:Nat)),(4,PV.bool false),(5,PV.row false (an.strs cd) (0:Nat)),((6:Nat),PV.str (x.1++([47]:Bs)++cf cd (bX (bP ns x.2.2) (8:Int)))),((7:Nat),PV.row false (an.strs (x.2.1.2++[cf cd (bX (bP ns x.2.2) (8:Int))])) ((7:Nat)+(32:Nat))),((8:Nat),PV.int .i64 (x.2.2+(1:Int))),((9:Nat),PV.undef),((10:Nat),PV.undef),((11:Nat),PV.undef),(12,PV.undef),(13,PV.undef),(21,PV.bool (bif decide (Int.ofNat ns.length<(1:Int))then true else decide ((12:Int)<Int.ofNat ns.length))),((27:Nat),PV.undef),((39:Nat),PV.undef),((65:Nat),PV.undef),((74:Nat),PV.undef),((80:Nat),PV.undef),((84:Nat),PV.undef),((91:Nat),PV.undef)] [])∧jv ns bs (x.1++([47]:Bs)++cf cd (bX (bP ns x.2.2) (8:Int))) (false,x.2.1.2++[cf cd (bX (bP ns x.2.2) (8:Int))]) (x.2.2+(1:Int))∧(↑ns.length-(x.2.2+(1:Int))).toNat<(↑ns.length-x.2.2).toNat))))∧(decide (x.2.2<Int.ofNat ns.length)=false→(List.length x.1).le (60000:Nat)∧(decide ((cN x.1).2=(0:Int))=true→(cN x.1).1.pl.length.le (1000000:Nat)∧((bif decide ((cN x.1).1.pl=x.2.1.2)then Bool.rec false (decide ((cN x.1).1.hs=([104]:Bs))&&(decide ((cN x.1).1.hn=(0:Int))&&(decide ((cN x.1).1.hp=List.replicate (8:Nat) (0:Int))&&true))) (decide ((cN x.1).1.hk=(2:Int)))else false)=true→True)∧k (PV.bool (bif bif decide ((cN x.1).1.pl=x.2.1.2)then Bool.rec false (decide ((cN x.1).1.hs=([104]:Bs))&&(decide ((cN x.1).1.hn=(0:Int))&&(decide ((cN x.1).1.hp=List.replicate (8:Nat) (0:Int))&&true))) (decide ((cN x.1).1.hk=(2:Int)))else false then true else false)))∧(decide ((cN x.1).2=(0:Int))=!true→(false=true→True)∧k (PV.bool false))))):=by kernel_rfl
attribute [local irreducible] Go.Vc.cG
theorem GN(nl:Bool)(ns:List Int)(nb:Bool)(eV:List PV)(bs:List Bool):ag Tryz.prog az 6 [.row nl (.ints .i64 ns) 0,.vec nb 1 eV 0] ⟨eV=bs.map .bool∧∀z∈ns,-9223372036854775808≤z∧z≤9223372036854775807,.bool true⟩:=b7 (by kernel_rfl) AK (H:=B3 nl ns nb eV bs) (fuel:=1000) Tryz.func6 (by kernel_rfl) fun hpre=>(GM nl ns nb eV bs _).mpr (by
 obtain ⟨hsh,hns⟩:=hpre
 subst hsh
 have mx:∀n:Nat,n≤1000→n≤Go.Vc.maxLen:=fun n h=>Nat.le_trans h (by decide)
 have hof:Int.ofNat ns.length=(ns.length:Int):=rfl
 rw [hof]
 refine ⟨fun _=>⟨trivial,rfl⟩,fun h=>?_⟩
 have hn:1≤ns.length∧ns.length≤12:=by
  cases e1:decide ((ns.length:Int)<1)with
  |true=>rw [e1]at h;cases h
  |false=>
   rw [e1]at h
   have d1:=of_decide_eq_false e1
   have d2:=of_decide_eq_false (show decide ((12:Int)<(ns.length:Int))=false from h)
   omega
 refine ⟨rfl,⟨0,rfl,by omega,rfl,rfl,show 8≤8+5*0 by omega,Nat.le_refl _⟩,fun x hx=>?_⟩
 obtain ⟨s,w,i⟩:=x
 obtain ⟨j,hi,hJ⟩:=hx
 dsimp only at hi hJ⊢
 subst hi
 have hsl:=hJ.sl
 have hwl:=hJ.wl
 have hle:=hJ.le
 refine ⟨fun h=>?_,fun h=>?_⟩
 ·have hj:j<ns.length:=by have:=of_decide_eq_true h;omega
  have hzm:bP ns (j:Int)∈ns:=by
   unfold bP
   rw [Int.toNat_natCast,List.getD_eq_getElem?_getD,List.getElem?_eq_getElem hj]
   exact List.getElem_mem hj
  have hlow:-9223372036854775808≤bP ns (j:Int)∧bP ns (j:Int)≤9223372036854775807∧(1:Int)≤8∧(8:Int)≤4611686018427387904:=⟨(hns _ hzm).1,(hns _ hzm).2,by decide,by decide⟩
  have hK:=uQ (bP ns (j:Int)) 8 (by omega)
  have hdp:cf cd (bX (bP ns (j:Int)) 8)=kN ns j:=rfl
  have hdl:=(rF ns j).2
  have hwj:0≤(j:Int)∧(j:Int)<(ns.length:Int):=⟨by omega,by omega⟩
  have hKw:within (bX (bP ns (j:Int)) 8) (Int.ofNat cd.length):=hK
  have hi1:ay ((ns.length:Int)-1):=by unfold ay;omega
  have hij:ay ((j:Int)+1):=by unfold ay;omega
  have hms:((ns.length:Int)-((j:Int)+1)).toNat<((ns.length:Int)-(j:Int)).toNat:=by omega
  have hmr:∀x:Bs,Int.ofNat (w.2++[x]).length≤cq:=fun x=>by
   rw [List.length_append,List.length_singleton]
   show((w.2.length+1:Nat):Int)≤16777216
   omega
  have htl:=gv w.2 (Int.ofNat w.2.length-1)
  have hmr2:Int.ofNat (ae w.2 (Int.ofNat w.2.length-1)++[([]:Bs)]).length≤cq:=by
   rw [List.length_append,List.length_singleton]
   show(((ae w.2 (Int.ofNat w.2.length-1)).length+1:Nat):Int)≤16777216
   omega
  have hofw:Int.ofNat w.2.length=(w.2.length:Int):=rfl
  have nxt:∀w':Bool×List Bs,w'.2=gW (decide (j+1=ns.length)) w.2 (cf cd (bX (bP ns (j:Int)) 8))→w'.2.length≤j+1→jv ns bs (s++[rE bs j]++cf cd (bX (bP ns (j:Int)) 8)) w' ((j:Int)+1):=fun w' h1 h2=>⟨j+1,by push_cast;rfl,hJ.next hj h1 h2⟩
  have gt:decide ((j:Int)=(ns.length:Int)-1)=true→decide (j+1=ns.length)=true:=fun g=>decide_eq_true (by have:=of_decide_eq_true g;omega)
  have gf:decide ((j:Int)=(ns.length:Int)-1)=false→decide (j+1=ns.length)=false:=fun g=>decide_eq_false (by have:=of_decide_eq_false g;omega)
  have shrP:decide ((0:Int)<Int.ofNat w.2.length)=true→sk w.2=ae w.2 (Int.ofNat w.2.length-1):=fun g=>by
   have g:=of_decide_eq_true g
   rw [hofw]at g⊢
   unfold sk ae
   rw [if_neg (by intro e;rw [e]at g;simp at g),show((w.2.length:Int)-1).toNat=w.2.length-1 by omega]
  have shrN:decide ((0:Int)<Int.ofNat w.2.length)=false→sk w.2=w.2:=fun g=>by
   have g:=of_decide_eq_false g
   rw [hofw]at g
   unfold sk
   rw [if_pos (List.eq_nil_of_length_eq_zero (by omega))]
  obtain ⟨K,hKe⟩:∃K,bX (bP ns (j:Int)) 8=K:=⟨_,rfl⟩
  rw [hKe]at hK hKw nxt hdp⊢
  rw [←hdp]at hdl
  have k46:(bif decide (K=4)then true else decide (K=6))=true→K=4∨K=6:=fun g=>by rw [KM,Bool.or_eq_true,decide_eq_true_eq,decide_eq_true_eq]at g;exact g
  have n46:(bif decide (K=4)then true else decide (K=6))=false→¬(K=4∨K=6):=fun g e=>by rw [KM,Bool.or_eq_false_iff,decide_eq_false_iff_not,decide_eq_false_iff_not]at g;omega
  have k35:(bif decide (K=3)then true else decide (K=5))=true→K=3∨K=5:=fun g=>by rw [KM,Bool.or_eq_true,decide_eq_true_eq,decide_eq_true_eq]at g;exact g
  have n35:(bif decide (K=3)then true else decide (K=5))=false→¬(K=3∨K=5):=fun g e=>by rw [KM,Bool.or_eq_false_iff,decide_eq_false_iff_not,decide_eq_false_iff_not]at g;omega
  rw [hofw]at *
  refine ⟨fun g=>⟨by omega,of_decide_eq_true g⟩,fun g=>I5 bs j g,fun g=>?_,fun g=>?_⟩
  all_goals rw [Ll]at g
  ·have hc:([92]:Bs)=[rE bs j]:=by unfold rE;rw [g];rfl
   rw [hc]
   refine ⟨⟨hwj.1,hwj.2⟩,hlow,mx _ (by rw [List.length_singleton];omega),hKw,mx _ (by rw [List.length_append,List.length_singleton];omega),hi1,fun g4=>⟨fun gl=>⟨by have:=of_decide_eq_true gl;unfold ay;omega,by have:=of_decide_eq_true gl;exact ⟨Int.le_refl _,by omega,by omega⟩,fun gn=>?_,fun gn=>?_⟩,fun gl=>⟨fun gn=>?_,fun gn=>?_⟩⟩,fun g4=>⟨fun g3=>⟨fun gn=>?_,fun gn=>?_⟩,fun g3=>⟨hKw,hmr _,hij,rfl,?_,hms⟩⟩⟩
   ·exact ⟨hmr2,hij,rfl,nxt (false,_) (by rw [d46 (k46 g4),gt gn,if_pos rfl,shrP gl]) (by dsimp only;rw [List.length_append,List.length_singleton];have:=gv w.2 ((w.2.length:Int)-1);omega),hms⟩
   ·exact ⟨hij,rfl,nxt (w.1,_) (by rw [d46 (k46 g4),gf gn,if_neg (by decide),shrP gl]) (by dsimp only;have:=gv w.2 ((w.2.length:Int)-1);omega),hms⟩
   ·exact ⟨hmr _,hij,rfl,nxt (false,_) (by rw [d46 (k46 g4),gt gn,if_pos rfl,shrN gl]) (by dsimp only;rw [List.length_append,List.length_singleton];omega),hms⟩
   ·exact ⟨hij,rfl,nxt (w.1,w.2) (by rw [d46 (k46 g4),gf gn,if_neg (by decide),shrN gl]) (by dsimp only;omega),hms⟩
   ·exact ⟨hmr _,hij,rfl,nxt (false,_) (by rw [d35 (k35 g3),gt gn,if_pos rfl]) (by dsimp only;rw [List.length_append,List.length_singleton];omega),hms⟩
   ·exact ⟨hij,rfl,nxt (w.1,w.2) (by rw [d35 (k35 g3),gf gn,if_neg (by decide)]) (by dsimp only;omega),hms⟩
   ·exact nxt (false,_) (by rw [Lm hK.1 hK.2 (n46 g4) (n35 g3)]) (by dsimp only;rw [List.length_append,List.length_singleton];omega)
  ·have hc:([47]:Bs)=[rE bs j]:=by unfold rE;rw [if_neg (by rw [g];decide)]
   rw [hc]
   refine ⟨⟨hwj.1,hwj.2⟩,hlow,mx _ (by rw [List.length_singleton];omega),hKw,mx _ (by rw [List.length_append,List.length_singleton];omega),hi1,fun g4=>⟨fun gl=>⟨by have:=of_decide_eq_true gl;unfold ay;omega,by have:=of_decide_eq_true gl;exact ⟨Int.le_refl _,by omega,by omega⟩,fun gn=>?_,fun gn=>?_⟩,fun gl=>⟨fun gn=>?_,fun gn=>?_⟩⟩,fun g4=>⟨fun g3=>⟨fun gn=>?_,fun gn=>?_⟩,fun g3=>⟨hKw,hmr _,hij,rfl,?_,hms⟩⟩⟩
   ·exact ⟨hmr2,hij,rfl,nxt (false,_) (by rw [d46 (k46 g4),gt gn,if_pos rfl,shrP gl]) (by dsimp only;rw [List.length_append,List.length_singleton];have:=gv w.2 ((w.2.length:Int)-1);omega),hms⟩
   ·exact ⟨hij,rfl,nxt (w.1,_) (by rw [d46 (k46 g4),gf gn,if_neg (by decide),shrP gl]) (by dsimp only;have:=gv w.2 ((w.2.length:Int)-1);omega),hms⟩
   ·exact ⟨hmr _,hij,rfl,nxt (false,_) (by rw [d46 (k46 g4),gt gn,if_pos rfl,shrN gl]) (by dsimp only;rw [List.length_append,List.length_singleton];omega),hms⟩
   ·exact ⟨hij,rfl,nxt (w.1,w.2) (by rw [d46 (k46 g4),gf gn,if_neg (by decide),shrN gl]) (by dsimp only;omega),hms⟩
   ·exact ⟨hmr _,hij,rfl,nxt (false,_) (by rw [d35 (k35 g3),gt gn,if_pos rfl]) (by dsimp only;rw [List.length_append,List.length_singleton];omega),hms⟩
   ·exact ⟨hij,rfl,nxt (w.1,w.2) (by rw [d35 (k35 g3),gf gn,if_neg (by decide)]) (by dsimp only;omega),hms⟩
   ·exact nxt (false,_) (by rw [Lm hK.1 hK.2 (n46 g4) (n35 g3)]) (by dsimp only;rw [List.length_append,List.length_singleton];omega)
 ·have hge:j=ns.length:=by have:=of_decide_eq_false h;omega
  have ht:=hJ.txt
  have hp:=hJ.pts
  rw [yH ns bs (by omega)]at ht hp
  have hs:s=hB++cS (ju ns bs):=by rw [←ht];exact (List.append_nil s).symm
  have hw:w.2=mL ((ju ns bs).map (·.2)) []:=hp
  have hall:ju ns bs=(rE bs 0,kN ns 0)::(ju ns bs).drop 1:=oa (j:=0) (by omega)
  have hu:=GH (rE bs 0) (kN ns 0) ((ju ns bs).drop 1) (by rw [←hall];exact I7 ns bs)
  rw [←hall,←hs]at hu
  obtain ⟨u1,u2,u3,u4,u5,u6⟩:=hu
  have u2:(bH s).1.pl=w.2:=by rw [u2,hw,hall];rfl
  rw [mM]
  refine ⟨show s.length≤60000 by omega,fun _=>⟨show(bH s).1.pl.length≤1000000 by rw [u2];omega,fun _=>trivial,?_⟩,fun e=>absurd u1 (of_decide_eq_false e)⟩
  rw [u2,u3,u4,u5,u6,decide_eq_true (rfl:w.2=w.2)]
  rfl)
end
end Go.Proofs.YtmfapopclbnlpaaGreatDoor

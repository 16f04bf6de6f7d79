/- Layer 4, RingTurns: its walk stands in RingAll. -/
import Derived.Test.YtbbnfbclbhkneaaRingAll

package rv

import "tierline/api"

// Where what an op settles begins in its words.
const (
	middle = 12
	high   = 25
	top    = 26 // in shifts, whose Imm goes on to the bit 25
)

// pattern of an op's words: their shape, and what the op has settled in them.
type pattern struct{ shape, settled int }

var patterns = [api.REcall + 1]pattern{
	api.RAdd:   {shapeR, 51},
	api.RSub:   {shapeR, 51 | 32<<high},
	api.RMul:   {shapeR, 51 | 1<<high},
	api.RDiv:   {shapeR, 51 | 4<<middle | 1<<high},
	api.RAnd:   {shapeR, 51 | 7<<middle},
	api.ROr:    {shapeR, 51 | 6<<middle},
	api.RXor:   {shapeR, 51 | 4<<middle},
	api.RSll:   {shapeR, 51 | 1<<middle},
	api.RSra:   {shapeR, 51 | 5<<middle | 32<<high},
	api.RSlt:   {shapeR, 51 | 2<<middle},
	api.RSltu:  {shapeR, 51 | 3<<middle},
	api.RAddi:  {shapeI, 19},
	api.RAndi:  {shapeI, 19 | 7<<middle},
	api.ROri:   {shapeI, 19 | 6<<middle},
	api.RXori:  {shapeI, 19 | 4<<middle},
	api.RSlti:  {shapeI, 19 | 2<<middle},
	api.RSltiu: {shapeI, 19 | 3<<middle},
	api.RSlli:  {shapeShift, 19 | 1<<middle},
	api.RSrai:  {shapeShift, 19 | 5<<middle | 16<<top},
	api.RLd:    {shapeI, 3 | 3<<middle},
	api.RSd:    {shapeS, 35 | 3<<middle},
	api.RBeq:   {shapeB, 99},
	api.RBne:   {shapeB, 99 | 1<<middle},
	api.RBlt:   {shapeB, 99 | 4<<middle},
	api.RBge:   {shapeB, 99 | 5<<middle},
	api.RJal:   {shapeJ, 111},
	api.RJalr:  {shapeI, 103},
	api.RLui:   {shapeU, 55},
	api.REcall: {shapeE, 115},
}
